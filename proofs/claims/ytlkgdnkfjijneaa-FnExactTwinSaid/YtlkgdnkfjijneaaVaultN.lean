/- Twin of the model. -/
import Derived.Test.YtlkgdnkfjijneaaVaultI
import Derived.Test.YtlkgdnkfjijneaaVaultU
import Derived.Test.YtlkgdnkfjijneaaBuf
namespace Go.Proofs.Ytlkgdnkfjijneaa
open Go.RowKit

/-- A row of secrets that grows. -/
def OwnRow (w : World) (base : Nat) (v : Value) (l : List Sec) : Prop := w.ownsRow base 39 4 v l.length (secRow l)
theorem OwnRow.alloc {w : World} {base : Nat} {v : Value} {l : List Sec} (h : OwnRow w base v l) (o : Obj) : OwnRow (w.alloc o) base v l := World.ownsRow.alloc h o
theorem OwnRow.below {w w' : World} {base : Nat} {v : Value} {l : List Sec} (h : OwnRow w base v l) (k : Below w.heap.size w w') : OwnRow w' base v l := World.ownsRow.kept h (grown_of_below k (Nat.le_refl _)) (by
  rcases h.2 with ⟨rfl, _⟩ | ⟨g, cap, cur, rfl, _⟩
  · exact .inl rfl
  · exact .inr (by simp [Value.ownBlock]))
theorem OwnRow.setOther {w : World} {base g : Nat} {v : Value} {l : List Sec} (h : OwnRow w base v l) (hg : v.ownBlock ≠ some g) (i : Nat) (u : Value) : OwnRow (w.setCell ⟨g, i, none⟩ u) base v l :=
  World.ownsRow.kept h (grown_put (World.grownBy.refl w (some g)) i u) (.inr hg)
theorem OwnRow.lt {w : World} {base : Nat} {v : Value} {l : List Sec} (h : OwnRow w base v l) : ∀ g, v.ownBlock = some g → g < w.heap.size := by
  intro k hk
  rcases h.2 with ⟨rfl, _⟩ | ⟨g, cap, cur, rfl, hb, hh, _⟩
  · simp [Value.ownBlock] at hk
  · simp [Value.ownBlock] at hk
    subst hk
    exact lt_of_block hh
theorem OwnRow.secs {w : World} {base : Nat} {v : Value} {l : List Sec} (h : OwnRow w base v l) (hl : l.length ≤ 1048576) (hwf : ∀ x ∈ l, SecWf x) : Secs w v l := by
  have h' := h
  rcases h.2 with ⟨rfl, h0⟩ | ⟨g, cap, cur, rfl, hb, hg, hnc, hcm, hcs, ht⟩
  · exact ⟨by unfold maxLen; omega, hwf, none, 0, by rw [h0], fun h => by omega⟩
  · refine ⟨by unfold maxLen; omega, hwf, _, cap, rfl, fun h0 => ⟨g, 0, rfl, lt_of_block hg, fun j hj m hm => ?_⟩⟩
    rw [Nat.zero_add, ← secRow_at l j m hm hj]
    exact World.ownsRow.cellAt h' (j * 4 + m) (by omega)
theorem new_sec (w : World) (y : Sec) (t : TypeId) (j : Nat) (u : Value) (h : (secV y)[j]? = some u) : (w.alloc (.cells (secV y).toArray t)).cell? ((⟨w.heap.size, 0, none⟩ : Addr).add j) = some u := by
  have e1 : (⟨w.heap.size, 0, none⟩ : Addr).add j = ⟨w.heap.size, j, none⟩ := by unfold Addr.add; split <;> simp_all
  rw [e1, cell_of_row _ _ _ _ _ _ (heap_alloc_new w _), List.getElem?_toArray, h]
/-- One secret appended. -/
theorem wpList_append_sec {w w0 : World} {ops : Array Oper} {rest : List Oper} {o : Oper} {a : Act} {Q : Exit → Act → World → Prop} (hgd : o.guard = none) (s x : Operand)
    (ho : o.op = .call { callee := .builtin .append, args := #[s, x], argTypes := #[26, 26] })
    (base : Nat) (v : Value) (l : List Sec) (y : Sec) (t : TypeId) (hs : a.eval s = v) (hown : OwnRow w base v l) (hx : a.eval x = .slice (some ⟨w.heap.size, 0, none⟩) 1 1)
    (hlen : l.length < 1048576) (hbel : Below base w0 w) (hB : base ≤ w.heap.size)
    (h : ∀ v' w', OwnRow w' base v' (l ++ [y]) → Below base w0 w' → wpList Try.prog ops Q rest (a.put o.dst v') w') : wpList Try.prog ops Q (o :: rest) a (w.alloc (.cells (secV y).toArray t)) := by
  obtain ⟨i0, hi, hz0, hz1, hz2⟩ := info_parts Try.info39
  refine wpList_append_own _ hgd s x 26 ho base 39 i0 _ 4 56 Try.underlying26 hi hz0 hz1 hz2 rfl (by decide) v l.length _ hs (hown.alloc _) ⟨w.heap.size, 0, none⟩ 1 1 (secV y) hx rfl (fun j u hj => new_sec w y t j u hj) ?_ (by unfold maxLen; omega) (by omega) (by simp; omega) ?_
  · intro u hu
    simp [secV] at hu
    rcases hu with rfl | rfl | rfl | rfl <;> rfl
  · intro v' w' ho' hg _
    refine h v' w' ?_ (own_kept (World.ownsRow.alloc hown _) (hbel.alloc hB _) hg (by simp; omega))
    unfold OwnRow secRow
    rw [List.flatMap_append, List.length_append]
    rw [List.flatMap_cons, List.flatMap_nil, List.append_nil]
    exact ho'
/-- A word of which the first k letters are turned on. -/
def mixL (n : Nat) (T : List UInt8) (k : Nat) : List UInt8 := turnL n (T.take k) ++ T.drop k
theorem mixL_len (n : Nat) (T : List UInt8) (k : Nat) : (mixL n T k).length = T.length := by unfold mixL turnL; simp; omega
theorem mixL_at (n : Nat) (T : List UInt8) (k : Nat) (hk : k < T.length) (h : k < (mixL n T k).length) : (mixL n T k)[k] = T[k] := by
  have e : (mixL n T k)[k]? = T[k]? := by
    unfold mixL
    have hl : (turnL n (T.take k)).length = k := by unfold turnL; simp; omega
    rw [List.getElem?_append_right (by omega), hl, Nat.sub_self]
    simp
  rw [List.getElem?_eq_getElem h, List.getElem?_eq_getElem hk] at e
  exact Option.some.inj e
theorem mixL_set (n : Nat) (T : List UInt8) (k : Nat) (hk : k < T.length) : (mixL n T k).set k (turnB n T[k]) = mixL n T (k + 1) := by
  have hl : (turnL n (T.take k)).length = k := by unfold turnL; simp; omega
  unfold mixL
  rw [List.set_append, if_neg (by omega), hl, Nat.sub_self, List.drop_eq_getElem_cons hk, List.set_cons_zero, List.take_succ_eq_append_getElem hk]
  unfold turnL
  rw [List.map_append, List.append_assoc]; rfl
theorem mixL_all (n : Nat) (T : List UInt8) : mixL n T T.length = turnL n T := by unfold mixL; simp
theorem bytesOf_self (t : ByteArray) : bytesOf t.data.toList = t := bytesOf_data' t
def RowEnd4 (l : List Sec) (w : World) (e : Ending) (w' : World) : Prop := ∃ v, e = .returned v ∧ OwnRow w' w.heap.size v l ∧ Below w.heap.size w w'
set_option maxRecDepth 20000 in
set_option maxHeartbeats 8000000 in
theorem specTwin_any (v : Value) (l : List Sec) (n : Int) (w : World) (hv : Secs w v l) (hsml : ∀ x ∈ l, secSmall x) :
    Calls Try.prog 19 #[v, .int .i64 n] w (RowEnd4 (twinL l n) w) := by
  obtain ⟨A, cap, rfl⟩ := hv.form
  have hl := hv.1
  unfold maxLen at hl
  have hv0 := Lib.hid hv
  replace hsml := Lib.hid hsml
  clear hv
  have hown0 := Lib.hid (show OwnRow (w.alloc (.cells #[] 39)) w.heap.size (.slice (some ⟨w.heap.size, 0, none⟩) 0 0) [] from World.ownsRow_made w #[] 0 (Nat.le_refl _) (by simp) rfl)
  have hbel0 := Lib.hid ((Below.refl w.heap.size w).alloc (Nat.le_refl _) (.cells #[] 39))
  by_cases hok : vaultB l = true ∧ isB n 0 25 = true
  · obtain ⟨hok, hin⟩ := hok
    have hin2 : 0 ≤ n ∧ n ≤ 25 := of_decide_eq_true hin
    obtain ⟨m, rfl⟩ : ∃ m : Nat, n = (m : Int) := ⟨n.toNat, by omega⟩
    have hm : m ≤ 25 := by omega
    have e1 := Lib.hid (show twinL l (m : Int) = l.map (twinS m) by rw [twinL, if_pos ⟨hok, by omega, by omega⟩]; simp)
    have hin' := Lib.hid hin
    clear hin hin2
    have h4 := vaultB_len hok
    go_enter Try.func19, Try.ntmps19
    go_wp2
    go_loopw [5, 6] (fun u i wr => ∃ k : Nat, k ≤ l.length ∧ i = .int .i64 (k : Int) ∧ Hid (OwnRow wr w.heap.size u ((l.map (twinS m)).take k)) ∧ Hid (Below w.heap.size w wr)) (fun _ i _ => l.length - (intOf i).toNat)
    case atStart => exact ⟨0, Nat.zero_le _, rfl, by rw [List.take_zero]; exact hown0, hbel0⟩
    case round =>
      obtain ⟨k, hk, rfl, ho, hb⟩ := hrel
      by_cases hlt : k < l.length
      · have hlt' : (k : Int) < (l.length : Int) := by omega
        have hsecs := Lib.hid (hv0.out.below hb.out)
        go_wp2_with (go_at_call 11; refine (specVault_any _ l _ hsecs.out hsml.out).mono ?_; rintro e w2 ⟨rfl, hb2⟩; rw [hok]; replace ho := Lib.hid (ho.out.below hb2); replace hb := Lib.hid (Below.then_ hb.out hb2 (Nat.le_refl _)); clear hb2 hsecs)
        obtain ⟨b, off, rfl, hbk, c0, c1, c2, c3⟩ := (hv0.out.below hb.out).four k hlt
        have hsec := vaultB_sec hok hlt
        obtain ⟨s, hs⟩ : ∃ s, s = l[k] := ⟨_, rfl⟩
        rw [← hs] at c0 c1 c2 c3 hsec
        replace hs := Lib.hid hs
        have hwd := Lib.hid (secOk_parts hsec).2.2.2.1
        clear hsec
        have hoB := Lib.hid ho.out.lt
        have hbx := box4 (w := w2) s 39
        have hb4 := hb.out.alloc hb.out.size (.cells #[.string s.name, .int .i64 s.seat, .string s.word, .string s.prompt] 39)
        replace ho := ho.out.alloc (.cells #[.string s.name, .int .i64 s.seat, .string s.word, .string s.prompt] 39)
        obtain ⟨capB, w5, hconv, hbuf, hb5⟩ := to_bytes (w2.alloc (.cells #[.string s.name, .int .i64 s.seat, .string s.word, .string s.prompt] 39)) s.word.data.toList s.word.size (str_len s.word).symm
        rw [bytesOf_self] at hconv
        replace hbx := Lib.hid (hbx.up hb5)
        replace ho := Lib.hid (ho.below hb5)
        replace hb4 := Lib.hid (Below.then_ hb4 hb5 (Nat.le_refl _))
        have hz5 := hb5.size
        simp only [World.size_alloc] at hconv hbuf hz5
        replace hbuf := Lib.hid (show Buf w5 (w2.heap.size + 1) (mixL m s.word.data.toList 0) from hbuf)
        have hw0 := hb.out.size
        clear hb5 hb
        go_wp2_with (go_at_call 24; refine (is_any _ _ _ _).mono ?_; rintro e w3 ⟨rfl, rfl⟩; rw [hin'.out])
        clear hconv c0 c1 c2 c3
        obtain ⟨G, hG⟩ : ∃ G, G = w2.heap.size := ⟨_, rfl⟩
        rw [← hG] at hbuf hbx hoB hw0 hz5 ⊢
        clear hG hbk
        have hsw : s.word.size ≤ 12 := by have := (word_parts hwd.out).2.1; rw [str_len] at this; exact this
        go_loopw [9] (fun i wr => ∃ j : Nat, j ≤ s.word.size ∧ i = .int .i64 (j : Int) ∧ Hid (Buf wr (G + 1) (mixL m s.word.data.toList j)) ∧ Hid (w5.grownBy wr (some (G + 1)))) (fun i _ => s.word.size - (intOf i).toNat)
        case atStart => exact ⟨0, Nat.zero_le _, rfl, hbuf, Lib.hid (World.grownBy.refl _ _)⟩
        case round =>
          clear hbuf
          obtain ⟨j, hj, rfl, hB, hg⟩ := hrel
          have hBl := hB.out.1
          by_cases hjl : j < s.word.size
          · have hjl' : (j : Int) < (s.word.size : Int) := by omega
            have hjT : j < s.word.data.toList.length := by rw [str_len]; exact hjl
            obtain ⟨q0, q1⟩ := hB.out.2 j (by rw [mixL_len]; exact hjT)
            rw [mixL_at m _ j hjT] at q0
            have hc := (word_parts hwd.out).2.2 _ (List.getElem_mem hjT)
            have hset := mixL_set m _ j hjT
            obtain ⟨c, hce⟩ : ∃ c, c = s.word.data.toList[j] := ⟨_, rfl⟩
            rw [← hce] at q0 hc hset
            clear hce
            replace q0 : wr.cell? ⟨G + 1, j, none⟩ = some (.int .u8 (c.toNat : Int)) := q0
            have hu := Lib.hid (show (97 : Int) + ((c.toNat : Int) - 97 + (m : Int)) % 26 = ((turnB m c).toNat : Int) by rw [turnB_val c m hc]; omega)
            have hB2 := hB.out.set (v := j) (by rw [mixL_len]; exact hjT) (turnB m c)
            rw [hset, ← hu.out] at hB2
            have hB3 := Lib.hid (show Buf (wr.setCell ⟨G + 1, j, none⟩ (.int .u8 (97 + ((c.toNat : Int) - 97 + (m : Int)) % 26))) (G + 1) (mixL m s.word.data.toList (j + 1)) from hB2)
            have hg3 := Lib.hid (grown_put hg.out j (.int .u8 (97 + ((c.toNat : Int) - 97 + (m : Int)) % 26)))
            clear hB2 hset hB hg
            go_wp2
            go_roundw
            case rel => exact ⟨j + 1, by omega, by go_num, hB3, hg3⟩
            case measure => simp [intOf]; omega
          · have hjl' : ¬ (j : Int) < (s.word.size : Int) := by omega
            obtain rfl : j = s.word.size := by omega
            have hmix : mixL m s.word.data.toList s.word.size = turnL m s.word.data.toList := by rw [← str_len]; exact mixL_all _ _
            have hcv := hB.out.string (k := s.word.size) (cap := capB) (by rw [mixL_len, str_len])
            rw [hmix] at hcv
            have hbx6 := Lib.hid (show Blk wr G 39 (secV s) from (hg.out.block G (by have := hbx.out.lt; omega) (by simp)).trans hbx.out)
            obtain ⟨x0, x1, x2, x3⟩ := hbx6.out.four
            have hf2 := hbx6.out.free 2
            have ho6 := Lib.hid (OwnRow.setOther (w := wr) (g := G) (World.ownsRow.kept ho.out hg.out (.inr (fun e => by have := hoB.out _ e; omega))) (fun e => by have := hoB.out _ e; omega) 2 (.string (bytesOf (turnL m s.word.data.toList))))
            have hb6 := Lib.hid ((hb4.out.grown hg.out (by omega) (fun q hq => by cases hq; omega)).setCell (p := ⟨G, 2, none⟩) (show w.heap.size ≤ G from hw0) (.string (bytesOf (turnL m s.word.data.toList))))
            have hsz6 : (wr.setCell ⟨G, 2, none⟩ (.string (bytesOf (turnL m s.word.data.toList)))).heap.size = wr.heap.size := by simp [World.setCell]
            have hsz7 := Lib.hid hsz6
            clear hsz6
            have hlk := Lib.hid (show (l.map (twinS m)).take k ++ [(⟨s.name, s.seat, bytesOf (turnL m s.word.data.toList), s.prompt⟩ : Sec)] = (l.map (twinS m)).take (k + 1) by
              rw [List.take_succ_eq_append_getElem (by rw [List.length_map]; exact hlt), List.getElem_map, ← hs.out]; rfl)
            clear hB hg
            go_wp2_with (at_builtin; refine wpList_append_sec rfl (.tmp 55) (.tmp 57) rfl w.heap.size _ ((l.map (twinS m)).take k) ⟨s.name, s.seat, bytesOf (turnL m s.word.data.toList), s.prompt⟩ 39 rfl ho6.out (by rw [hsz7.out]; rfl) (by rw [List.length_take, List.length_map]; omega) hb6.out hb6.out.size ?_; intro v7 w7 ho7 hb7; rw [hlk.out] at ho7; replace ho7 := Lib.hid ho7; replace hb7 := Lib.hid hb7)
            go_roundw
            case rel => exact ⟨k + 1, by omega, by go_num, ho7, hb7⟩
            case measure => simp [intOf]; omega
      · have hlt' : ¬ (k : Int) < (l.length : Int) := by omega
        rw [List.take_of_length_le (by rw [List.length_map]; omega)] at ho
        go_wp2
        go_ret
        rw [e1.out]
        exact ⟨_, rfl, ho.out, hb.out⟩
  · have e1 := Lib.hid (twinL_no (l := l) (n := n) (fun h => hok ⟨h.1, by unfold isB; exact decide_eq_true h.2⟩))
    cases hok1 : vaultB l with
    | false =>
      go_enter Try.func19, Try.ntmps19
      go_wp2
      refine wp_loop_rounds 1 ?_
      rw [rounds_succ]
      by_cases h0 : 0 < l.length
      · have h0' : (0 : Int) < (l.length : Int) := by omega
        go_wp2_with (go_at_call 11; refine (specVault_any _ l _ (hv0.out.alloc _) hsml.out).mono ?_; rintro e w2 ⟨rfl, hb2⟩; rw [hok1]; have ho2 := Lib.hid (hown0.out.below hb2); have hbb := Lib.hid (Below.then_ hbel0.out hb2 (Nat.le_refl _)); clear hb2)
        go_ret
        rw [e1.out]
        exact ⟨_, rfl, ho2.out, hbb.out⟩
      · have h0' : ¬ (0 : Int) < (l.length : Int) := by omega
        go_wp2
        go_ret
        rw [e1.out]
        exact ⟨_, rfl, hown0.out, hbel0.out⟩
    | true =>
      have hin : isB n 0 25 = false := by
        cases h : isB n 0 25 with
        | false => rfl
        | true => exact absurd ⟨hok1, h⟩ hok
      go_enter Try.func19, Try.ntmps19
      go_wp2
      refine wp_loop_rounds 1 ?_
      rw [rounds_succ]
      by_cases h0 : 0 < l.length
      · have h0' : (0 : Int) < (l.length : Int) := by omega
        go_wp2_with (first
          | (go_at_call 11; refine (specVault_any _ l _ (hv0.out.alloc _) hsml.out).mono ?_; rintro e w2 ⟨rfl, hb2⟩; rw [hok1]; have ho2 := Lib.hid (hown0.out.below hb2); have hbb := Lib.hid (Below.then_ hbel0.out hb2 (Nat.le_refl _)); clear hb2)
          | (go_at_call 24; refine (is_any _ _ _ _).mono ?_; rintro e w3 ⟨rfl, rfl⟩; rw [hin]))
        go_ret
        rw [e1.out]
        exact ⟨_, rfl, ho2.out, hbb.out⟩
      · have h0' : ¬ (0 : Int) < (l.length : Int) := by omega
        go_wp2
        go_ret
        rw [e1.out]
        exact ⟨_, rfl, hown0.out, hbel0.out⟩
end Go.Proofs.Ytlkgdnkfjijneaa
