/- Twin of the program. -/
import Derived.Test.YtlkgdnkfjijneaaVaultC
import Derived.Test.YtlkgdnkfjijneaaVaultV
namespace Go.Proofs.Ytlkgdnkfjijneaa
open Go.RowKit

theorem Blk.eight {w : World} {g : Nat} {t : TypeId} {cs : List Value} (h : Blk w g t cs) (i : Nat) (hi : i + 3 < cs.length) :
    w.cell? ⟨g, i, none⟩ = some (cs[i]'(by omega)) ∧ w.cell? ⟨g, i + 1, none⟩ = some (cs[i + 1]'(by omega)) ∧ w.cell? ⟨g, i + 2, none⟩ = some (cs[i + 2]'(by omega)) ∧ w.cell? ⟨g, i + 3, none⟩ = some cs[i + 3] ∧
      w.frozen? ⟨g, i, none⟩ = false ∧ w.frozen? ⟨g, i + 1, none⟩ = false ∧ w.frozen? ⟨g, i + 2, none⟩ = false ∧ w.frozen? ⟨g, i + 3, none⟩ = false :=
  ⟨h.cell i (by omega), h.cell (i + 1) (by omega), h.cell (i + 2) (by omega), h.cell (i + 3) hi, h.free i, h.free (i + 1), h.free (i + 2), h.free (i + 3)⟩
/-- A vault that a call answers: none, or one of new memory. -/
def GotSecs (w : World) (base : Nat) (v : Value) (l : List Sec) : Prop := (l = [] ∧ v = .slice none 0 0) ∨ OwnSecs w base v l
def TwinEnd (l : List Sec) (w : World) (e : Ending) (w' : World) : Prop := ∃ v, e = .returned v ∧ GotSecs w' w.heap.size v l ∧ Below w.heap.size w w'
theorem TwinEnd.none_ {l : List Sec} {w w' : World} (h : l = []) (k : Below w.heap.size w w') : TwinEnd l w (.returned (.slice none 0 0)) w' := ⟨_, rfl, .inl ⟨h, rfl⟩, k⟩
theorem twinL_no {l : List Sec} {n : Int} (h : ¬ (vaultB l = true ∧ 0 ≤ n ∧ n ≤ 25)) : twinL l n = [] := if_neg h
theorem twinS_wf {x : Sec} (n : Nat) (h : SecWf x) : SecWf (twinS n x) := by
  refine ⟨h.1, ?_, h.2.2.1, h.2.2.2⟩
  show (bytesOf (turnL n x.word.data.toList)).size ≤ maxLen
  rw [bytesOf_size, turnL, List.length_map, str_len]
  exact h.2.1
theorem sec_small {x : Sec} (h : secOk x = true) : x.name.size ≤ 1048576 ∧ x.prompt.size ≤ 1048576 := by
  obtain ⟨h1, _, _, _, h5⟩ := secOk_parts h
  have h2 := (word_parts h1).2.1
  have h3 : x.prompt.data.toList.length ≤ 40 := by simp only [globOk, Bool.and_eq_true, decide_eq_true_eq] at h5; exact h5.1.2
  rw [str_len] at h2 h3
  omega
theorem cell_off4 {w : World} {g G : Nat} (hne : g ≠ G) (i j k m o : Nat) (a b c d : Value) :
    ((((w.setCell ⟨G, i, none⟩ a).setCell ⟨G, j, none⟩ b).setCell ⟨G, k, none⟩ c).setCell ⟨G, m, none⟩ d).cell? ⟨g, o, none⟩ = w.cell? ⟨g, o, none⟩ :=
  World.cell?_of_block (a := ⟨g, o, none⟩) ((((Below.heap_setCell _ ⟨G, m, none⟩ d g hne).trans (Below.heap_setCell _ ⟨G, k, none⟩ c g hne)).trans (Below.heap_setCell _ ⟨G, j, none⟩ b g hne)).trans (Below.heap_setCell w ⟨G, i, none⟩ a g hne))
theorem off4 {w : World} {g G : Nat} {x0 x1 x2 x3 : Value} (hne : g ≠ G) (i j k m : Nat) (a b c d : Value) (h0 : w.cell? ⟨g, 0, none⟩ = some x0) (h1 : w.cell? ⟨g, 1, none⟩ = some x1) (h2 : w.cell? ⟨g, 2, none⟩ = some x2) (h3 : w.cell? ⟨g, 3, none⟩ = some x3) :
    ((((w.setCell ⟨G, i, none⟩ a).setCell ⟨G, j, none⟩ b).setCell ⟨G, k, none⟩ c).setCell ⟨G, m, none⟩ d).cell? ⟨g, 0, none⟩ = some x0 ∧ ((((w.setCell ⟨G, i, none⟩ a).setCell ⟨G, j, none⟩ b).setCell ⟨G, k, none⟩ c).setCell ⟨G, m, none⟩ d).cell? ⟨g, 1, none⟩ = some x1 ∧
      ((((w.setCell ⟨G, i, none⟩ a).setCell ⟨G, j, none⟩ b).setCell ⟨G, k, none⟩ c).setCell ⟨G, m, none⟩ d).cell? ⟨g, 2, none⟩ = some x2 ∧ ((((w.setCell ⟨G, i, none⟩ a).setCell ⟨G, j, none⟩ b).setCell ⟨G, k, none⟩ c).setCell ⟨G, m, none⟩ d).cell? ⟨g, 3, none⟩ = some x3 :=
  ⟨(cell_off4 hne i j k m 0 a b c d).trans h0, (cell_off4 hne i j k m 1 a b c d).trans h1, (cell_off4 hne i j k m 2 a b c d).trans h2, (cell_off4 hne i j k m 3 a b c d).trans h3⟩
theorem wrap32_small (n : Nat) (h : n ≤ 1000) : IntKind.i32.wrap (n : Int) = (n : Int) := by
  have hm : (n : Int) % 4294967296 = n := by omega
  unfold IntKind.wrap
  simp [IntKind.bits, IntKind.signed, hm]
  omega
set_option maxRecDepth 20000 in
set_option maxHeartbeats 8000000 in
theorem implTwin_any (v : Value) (l : List Sec) (n : Int) (w : World) (hv : Secs w v l) :
    Calls Try.prog 20 #[v, .int .i64 n] w (TwinEnd (twinL l n) w) := by
  obtain ⟨i0, hi, hz0, hz1, hz2⟩ := info_parts Try.info39
  obtain ⟨A, cap, rfl⟩ := hv.form
  have hv' := Lib.hid hv
  have hv0 := Lib.hid hv
  clear hv
  cases hok : vaultB l with
  | false =>
    have e1 := Lib.hid (twinL_no (l := l) (n := n) (by rw [hok]; simp))
    go_enter Try.func20, Try.ntmps20
    go_wp2_with (go_at_call 13; refine (implVault_any _ l _ hv'.out).mono ?_; rintro e w1 ⟨rfl, hb1⟩; rw [hok]; replace hb1 := Lib.hid hb1)
    go_ret
    exact TwinEnd.none_ e1.out hb1.out
  | true =>
    by_cases hn0 : n < 0
    · have e1 := Lib.hid (twinL_no (l := l) (n := n) (by omega))
      go_enter Try.func20, Try.ntmps20
      go_wp2_with (go_at_call 13; refine (implVault_any _ l _ hv'.out).mono ?_; rintro e w1 ⟨rfl, hb1⟩; rw [hok]; replace hb1 := Lib.hid hb1)
      go_ret
      exact TwinEnd.none_ e1.out hb1.out
    · by_cases hn26 : 26 ≤ n
      · have e1 := Lib.hid (twinL_no (l := l) (n := n) (by omega))
        go_enter Try.func20, Try.ntmps20
        go_wp2_with (go_at_call 13; refine (implVault_any _ l _ hv'.out).mono ?_; rintro e w1 ⟨rfl, hb1⟩; rw [hok]; replace hb1 := Lib.hid hb1)
        go_ret
        exact TwinEnd.none_ e1.out hb1.out
      · obtain ⟨m, rfl⟩ : ∃ m : Nat, n = (m : Int) := ⟨n.toNat, by omega⟩
        have hm : m ≤ 25 := by omega
        have e1 := Lib.hid (show twinL l (m : Int) = l.map (twinS m) by rw [twinL, if_pos ⟨hok, by omega, by omega⟩]; simp)
        have h4 := vaultB_len hok
        have hlm := Lib.hid (show (l.map (twinS m)).length = l.length by simp)
        go_enter Try.func20, Try.ntmps20
        go_wp2_with (first
          | (go_at_call 13; refine (implVault_any _ l _ hv'.out).mono ?_; rintro e w1 ⟨rfl, hb1⟩; rw [hok]; replace hv' := Lib.hid (hv'.out.below hb1); replace hb1 := Lib.hid hb1)
          | (at_make; refine wpList_make_some rfl (.tmp 20) (.tmp 20) 26 rfl w1.heap.size 39 i0 _ 4 56 Try.underlying26 hi hz0 hz1 hz2 _ _ _ _ l.length rfl rfl rfl rfl (by omega) (by omega) (Below.refl _ _) (Nat.le_refl _) ?_; intro w2 cs0 hr1 hc0 hb2; have ht0 := Lib.hid (RowTill.none_ (l := l.map (twinS m)) (by rw [hlm.out]; exact hc0)); replace hr1 := Lib.hid hr1; replace hv' := Lib.hid (hv'.out.below hb2); have hG := hb1.out.size; replace hb1 := Lib.hid (Below.then_ hb1.out hb2 (Nat.le_refl _)); clear hc0 hb2))
        obtain ⟨G, hGe⟩ : ∃ G, G = w1.heap.size := ⟨_, rfl⟩
        rw [← hGe] at hr1 hG ⊢
        clear hGe
        replace hb1 := Lib.hid hb1.out
        have hx0 := Lib.hid hb1.out
        go_loopw [24] (fun i wr => ∃ (k : Nat) (cs : List Value), k ≤ l.length ∧ i = .int .i64 (k : Int) ∧ Hid (Blk wr G 39 cs) ∧ Hid (RowTill cs (l.map (twinS m)) k) ∧ Hid (Below w.heap.size w wr)) (fun i _ => l.length - (intOf i).toNat)
        case atStart => exact ⟨0, cs0, Nat.zero_le _, rfl, hr1, ht0, hb1⟩
        case round =>
          clear hb1 hx0 hr1 ht0
          obtain ⟨k, cs, hk, rfl, hr, ht, hb⟩ := hrel
          by_cases hlt : k < l.length
          · have hlt' : (k : Int) < (l.length : Int) := by omega
            obtain ⟨b, off, rfl, hbk, c0, c1, c2, c3⟩ := (hv0.out.below hb.out).four k hlt
            have hsec := vaultB_sec hok hlt
            obtain ⟨s, hs⟩ : ∃ s, s = l[k] := ⟨_, rfl⟩
            rw [← hs] at c0 c1 c2 c3 hsec
            replace hs := Lib.hid hs
            have hsm := Lib.hid (sec_small hsec)
            have hwd := Lib.hid (secOk_parts hsec).2.2.2.1
            clear hsec
            have hwl := hr.out.lt
            have hbx := box4 (w := wr) s 39
            obtain ⟨x0, x1, x2, x3⟩ := hbx.four
            replace hr := Lib.hid (hr.out.alloc (.cells #[.string s.name, .int .i64 s.seat, .string s.word, .string s.prompt] 39))
            replace hb := Lib.hid (hb.out.alloc hb.out.size (.cells #[.string s.name, .int .i64 s.seat, .string s.word, .string s.prompt] 39))
            obtain ⟨V, hV⟩ : ∃ V, V = wr.alloc (.cells #[.string s.name, .int .i64 s.seat, .string s.word, .string s.prompt] 39) := ⟨_, rfl⟩
            rw [← hV] at x0 x1 x2 x3 hr hb
            clear hbx
            go_wp2
            rw [← hV]
            clear hV c0 c1 c2 c3
            replace hr := Lib.hid hr.out.drew
            replace hb := Lib.hid (below_drew' hb.out)
            obtain ⟨d0, d1, d2, d3, f0, f1, f2, f3⟩ := hr.out.eight (k * 4) (by have := ht.out.1; have := hlm.out; omega)
            have hne := Lib.hid (show wr.heap.size ≠ G by omega)
            have hw32 := wrap32_small m (by omega)
            go_region_held3 (fun w' => w'.cell? ⟨wr.heap.size, 0, none⟩ = some (.string s.name) ∧ w'.cell? ⟨wr.heap.size, 1, none⟩ = some (.int .i64 s.seat) ∧ w'.cell? ⟨wr.heap.size, 2, none⟩ = some (.string s.word) ∧ w'.cell? ⟨wr.heap.size, 3, none⟩ = some (.string s.prompt)) (first | exact ⟨x0, x1, x2, x3⟩ | exact off4 hne.out _ _ _ _ _ _ _ _ x0 x1 x2 x3 | go_keep)
              (first
                | (go_at_call_of 33 (Value.string s.name); refine (clone_any s.name _ hsm.out.1).mono ?_; rintro e w3 ⟨rfl, hb2⟩; replace x0 := cell_below hb2 (Nat.le_refl _) _ _ x0; replace x1 := cell_below hb2 (Nat.le_refl _) _ _ x1; replace x2 := cell_below hb2 (Nat.le_refl _) _ _ x2; replace x3 := cell_below hb2 (Nat.le_refl _) _ _ x3; replace hr := Lib.hid (hr.out.up hb2); obtain ⟨d0, d1, d2, d3, f0, f1, f2, f3⟩ := hr.out.eight (k * 4) (by have := ht.out.1; have := hlm.out; omega); replace hb := Lib.hid (Below.then_ hb.out hb2 (Nat.le_refl _)); clear hb2)
                | (go_at_call_of 33 (Value.string s.prompt); refine (clone_any s.prompt _ hsm.out.2).mono ?_; rintro e w3 ⟨rfl, hb2⟩; replace x0 := cell_below hb2 (Nat.le_refl _) _ _ x0; replace x1 := cell_below hb2 (Nat.le_refl _) _ _ x1; replace x2 := cell_below hb2 (Nat.le_refl _) _ _ x2; replace x3 := cell_below hb2 (Nat.le_refl _) _ _ x3; replace hr := Lib.hid (hr.out.up hb2); obtain ⟨d0, d1, d2, d3, f0, f1, f2, f3⟩ := hr.out.eight (k * 4) (by have := ht.out.1; have := hlm.out; omega); replace hb := Lib.hid (Below.then_ hb.out hb2 (Nat.le_refl _)); clear hb2)
                | (go_at_call 34; refine (turned_any s.word m _ hwd.out hm).mono ?_; rintro e w3 ⟨rfl, hb2⟩; replace x0 := cell_below hb2 (Nat.le_refl _) _ _ x0; replace x1 := cell_below hb2 (Nat.le_refl _) _ _ x1; replace x2 := cell_below hb2 (Nat.le_refl _) _ _ x2; replace x3 := cell_below hb2 (Nat.le_refl _) _ _ x3; replace hr := Lib.hid (hr.out.up hb2); obtain ⟨d0, d1, d2, d3, f0, f1, f2, f3⟩ := hr.out.eight (k * 4) (by have := ht.out.1; have := hlm.out; omega); replace hb := Lib.hid (Below.then_ hb.out hb2 (Nat.le_refl _)); clear hb2))
            all_goals
              have hr3 := Lib.hid (hr.out.set4 (k * 4) (k * 4 + 1) (k * 4 + 2) (k * 4 + 3) (.string s.name) (.int .i64 s.seat) (.string (bytesOf (turnL m s.word.data.toList))) (.string s.prompt))
              have ht3 := Lib.hid (show RowTill ((((cs.set (k * 4) (.string s.name)).set (k * 4 + 1) (.int .i64 s.seat)).set (k * 4 + 2) (.string (bytesOf (turnL m s.word.data.toList)))).set (k * 4 + 3) (.string s.prompt)) (l.map (twinS m)) (k + 1) by
                have h := ht.out.put (by rw [hlm.out]; exact hlt)
                rw [List.getElem_map, ← hs.out] at h
                exact h)
              have hb3 := Lib.hid (below_set4 hb.out (show w.heap.size ≤ G from hG) (k * 4) (k * 4 + 1) (k * 4 + 2) (k * 4 + 3) (.string s.name) (.int .i64 s.seat) (.string (bytesOf (turnL m s.word.data.toList))) (.string s.prompt))
              go_wp2
              go_roundw
              case rel => exact ⟨k + 1, _, by omega, by go_num, hr3, ht3, hb3⟩
              case measure => simp [intOf]; omega
          · have hlt' : ¬ (k : Int) < (l.length : Int) := by omega
            have hcs := ht.out.all (by rw [hlm.out]; omega)
            subst hcs
            have hwfs : ∀ x ∈ l.map (twinS m), SecWf x := fun x hx => by
              obtain ⟨y, hy, rfl⟩ := List.mem_map.1 hx
              exact twinS_wf m (hv0.out.2.1 y hy)
            have hO := Lib.hid (show OwnSecs wr w.heap.size (.slice (some ⟨G, 0, none⟩) l.length l.length) (l.map (twinS m)) from ⟨by rw [hlm.out]; omega, hwfs, G, by rw [hlm.out], hG, hr.out⟩)
            clear hr ht
            go_wp2
            go_ret
            rw [e1.out]
            exact ⟨_, rfl, .inr hO.out, hb.out⟩
end Go.Proofs.Ytlkgdnkfjijneaa
