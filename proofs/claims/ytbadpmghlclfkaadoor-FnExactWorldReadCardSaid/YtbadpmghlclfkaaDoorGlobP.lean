/- The program's small functions on globs: what stands at a place of a glob, the place behind it; GlobRight of the program. The model's parts of a glob: a row of structs of the call's own; GlobRight of the model. -/
import Derived.Test.YtbadpmghlclfkaaDoorGlobM
namespace Go.Proofs.YtbadpmghlclfkaaDoor
open Go.RowKit

theorem toList_at (s : ByteArray) (k : Nat) (hk : k < s.size) : s.data.toList[k]? = some s[k] := by
  rw [Array.getElem?_toList, Array.getElem?_eq_getElem (show k < s.data.size from hk)]; rfl
theorem is_byte {c : UInt8} (n : Nat) (h : c = UInt8.ofNat n) (hn : n < 256) : ((c.toNat : Int) == (n : Int)) = true := by
  subst h; rw [UInt8.toNat_ofNat_of_lt' hn]; simp
theorem not_byte {c : UInt8} (n : Nat) (h : c ≠ UInt8.ofNat n) (hn : n < 256) : ((c.toNat : Int) == (n : Int)) = false := by
  rw [beq_eq_false_iff_ne]
  intro e
  apply h
  apply UInt8.toNat_inj.1
  rw [UInt8.toNat_ofNat_of_lt' hn]; omega
theorem byte_same (a b : UInt8) : ((a.toNat : Int) == (b.toNat : Int)) = (a == b) := by
  by_cases h : a = b
  · subst h; simp
  · rw [(beq_eq_false_iff_ne (a := a) (b := b)).2 h, beq_eq_false_iff_ne]
    intro e; exact h (UInt8.toNat_inj.1 (by omega))

/-- The place behind what stands at i; does it mean the byte c? -/
def behindN (l : List UInt8) (i : Nat) : Nat := if l[i]? = some 92 then i + 2 else i + 1
def takesB (l : List UInt8) (i : Nat) (c : UInt8) : Bool := if l[i]? = some 63 then true else if l[i]? = some 92 then l[i + 1]? == some c else l[i]? == some c

theorem part_at {l : List UInt8} {i : Nat} (hi : i < l.length) {ps : List Pt} (h : parts (l.drop i) = some ps) :
    (l[i]? = some 42 ∧ ∃ rest, ps = .star :: rest ∧ parts (l.drop (i + 1)) = some rest) ∨
    (l[i]? ≠ some 42 ∧ ∃ x rest, ps = x :: rest ∧ x.isStar = false ∧ (∀ c, x.fits c = takesB l i c) ∧ parts (l.drop (behindN l i)) = some rest ∧ behindN l i ≤ l.length ∧ i < behindN l i ∧ (l[i]? = some 92 → i + 1 < l.length)) := by
  obtain ⟨c, hc⟩ : ∃ c, l[i]? = some c := ⟨_, List.getElem?_eq_getElem hi⟩
  have inv : ∀ {o : Option (List Pt)} {f : List Pt → List Pt}, o.map f = some ps → ∃ r, o = some r ∧ f r = ps := fun h => by
    rw [Option.map_eq_some_iff] at h; exact h
  by_cases h1 : c = 42
  · subst h1
    rw [parts_star hc] at h
    obtain ⟨r, hr, rfl⟩ := inv h
    exact .inl ⟨hc, r, rfl, hr⟩
  · refine .inr ⟨by rw [hc]; intro e; cases e; exact h1 rfl, ?_⟩
    by_cases h2 : c = 63
    · subst h2
      rw [parts_any hc] at h
      obtain ⟨r, hr, rfl⟩ := inv h
      have e : behindN l i = i + 1 := by rw [behindN, hc, if_neg (by decide)]
      exact ⟨_, r, rfl, rfl, fun c => by rw [takesB, if_pos hc]; rfl, by rw [e]; exact hr, by omega, by omega, fun h => by rw [hc] at h; cases h⟩
    · by_cases h3 : c = 92
      · subst h3
        have e : behindN l i = i + 2 := by rw [behindN, hc, if_pos rfl]
        rcases Nat.lt_or_ge (i + 1) l.length with h4 | h4
        · obtain ⟨d, hd⟩ : ∃ d, l[i + 1]? = some d := ⟨_, List.getElem?_eq_getElem h4⟩
          rw [parts_back hc hd] at h
          obtain ⟨r, hr, rfl⟩ := inv h
          refine ⟨_, r, rfl, rfl, fun c => ?_, by rw [e]; exact hr, by omega, by omega, fun _ => h4⟩
          rw [takesB, hc, if_neg (by decide), if_pos rfl, hd]
          show (c == d) = (some d == some c)
          by_cases h : c = d
          · subst h; simp
          · rw [(beq_eq_false_iff_ne (a := c) (b := d)).2 h]
            symm
            rw [beq_eq_false_iff_ne]
            intro e; cases e; exact h rfl
        · rw [parts_back_end hc h4] at h; cases h
      · have e : behindN l i = i + 1 := by rw [behindN, hc, if_neg (by intro e; cases e; exact h3 rfl)]
        rw [parts_byte hc h1 h2 h3] at h
        obtain ⟨r, hr, rfl⟩ := inv h
        refine ⟨_, r, rfl, rfl, fun d => ?_, by rw [e]; exact hr, by omega, by omega, fun h => by rw [hc] at h; cases h; exact (h3 rfl).elim⟩
        rw [takesB, hc, if_neg (by intro e; cases e; exact h2 rfl), if_neg (by intro e; cases e; exact h3 rfl)]
        show (d == c) = (some c == some d)
        by_cases h : d = c
        · subst h; simp
        · rw [(beq_eq_false_iff_ne (a := d) (b := c)).2 h]
          symm
          rw [beq_eq_false_iff_ne]
          intro e; cases e; exact h rfl

set_option maxHeartbeats 400000 in
theorem behind_any (p : ByteArray) (i : Nat) (hi : i < p.size) (hp : p.size ≤ 1048576) (w : World) :
    Calls Tryd.prog 125 #[.string p, .int .i64 (i : Int)] w fun e w' => e = .returned (.int .i64 ((behindN p.data.toList i : Nat) : Int)) ∧ w = w' := by
  by_cases h : p[i] = 92
  · have h1 : ((p[i].toNat : Int) == 92) = true := is_byte (c := p[i]) 92 h (by decide)
    have H := Lib.hid (show behindN p.data.toList i = i + 2 by rw [behindN, toList_at p i hi, h, if_pos rfl])
    clear h
    go_enter Tryd.func125, Tryd.ntmps125
    go_wp2
    go_ret
    exact ⟨ret_int (by rw [H.out]; omega), rfl⟩
  · have h1 : ((p[i].toNat : Int) == 92) = false := not_byte (c := p[i]) 92 h (by decide)
    have H := Lib.hid (show behindN p.data.toList i = i + 1 by rw [behindN, toList_at p i hi, if_neg (by intro e; injection e with e; exact h e)])
    clear h
    go_enter Tryd.func125, Tryd.ntmps125
    go_wp2
    go_ret
    exact ⟨ret_int (by rw [H.out]; omega), rfl⟩
/-- How far GlobRight has come. -/
def RightAt (l : List UInt8) (i : Nat) : Prop := (i ≤ l.length ∧ (parts l).isSome = (parts (l.drop i)).isSome) ∨ (i = l.length + 1 ∧ (parts l).isSome = false)
theorem RightAt.step {l : List UInt8} {i : Nat} (h : RightAt l i) (hi : i < l.length) : RightAt l (behindN l i) ∧ i < behindN l i := by
  replace h : (parts l).isSome = (parts (l.drop i)).isSome := by
    rcases h with ⟨_, h⟩ | ⟨h, _⟩
    · exact h
    · omega
  obtain ⟨c, hc⟩ : ∃ c, l[i]? = some c := ⟨_, List.getElem?_eq_getElem hi⟩
  by_cases h3 : c = 92
  · subst h3
    have e : behindN l i = i + 2 := by rw [behindN, hc, if_pos rfl]
    rw [e]
    refine ⟨?_, by omega⟩
    rcases Nat.lt_or_ge (i + 1) l.length with h4 | h4
    · obtain ⟨d, hd⟩ : ∃ d, l[i + 1]? = some d := ⟨_, List.getElem?_eq_getElem h4⟩
      rw [parts_back hc hd, Option.isSome_map] at h
      exact .inl ⟨by omega, h⟩
    · rw [parts_back_end hc h4] at h
      exact .inr ⟨by omega, h⟩
  · have e : behindN l i = i + 1 := by rw [behindN, hc, if_neg (by intro e; cases e; exact h3 rfl)]
    rw [e]
    refine ⟨.inl ⟨by omega, ?_⟩, by omega⟩
    by_cases h1 : c = 42
    · subst h1; rw [parts_star hc, Option.isSome_map] at h; exact h
    · by_cases h2 : c = 63
      · subst h2; rw [parts_any hc, Option.isSome_map] at h; exact h
      · rw [parts_byte hc h1 h2 h3, Option.isSome_map] at h; exact h
theorem RightAt.done {l : List UInt8} {i : Nat} (h : RightAt l i) (hi : l.length ≤ i) (h1 : 1 ≤ l.length) (h2 : l.length ≤ 40) : decide (i = l.length) = globOk l := by
  rcases h with ⟨h3, h⟩ | ⟨h3, h⟩
  · obtain rfl : i = l.length := by omega
    rw [parts_end (Nat.le_refl _)] at h
    simp [globOk, h, h1, h2]
  · subst h3
    simp [globOk, h]
theorem globOk_short (l : List UInt8) (h : ¬ (1 ≤ l.length ∧ l.length ≤ 40)) : globOk l = false := by
  unfold globOk
  by_cases h1 : 1 ≤ l.length
  · have h2 : ¬ l.length ≤ 40 := fun h2 => h ⟨h1, h2⟩
    simp [h2]
  · simp [h1]
theorem size_data (s : ByteArray) : s.data.toList.length = s.size := by simp

set_option maxHeartbeats 400000 in
theorem implRight_any (p : ByteArray) (hp : p.size ≤ maxLen) (w : World) :
    Calls Tryd.prog 115 #[.string p] w fun e w' => e = .returned (.bool (globOk p.data.toList)) ∧ w = w' := by
  unfold maxLen at hp
  have hsz := Lib.hid (size_data p)
  by_cases h1 : 1 ≤ p.size
  · by_cases h2 : p.size ≤ 40
    · go_enter Tryd.func115, Tryd.ntmps115
      go_wp2
      go_loop [3] (fun i => ∃ k : Nat, k ≤ 41 ∧ i = .int .i64 (k : Int) ∧ Hid (RightAt p.data.toList k)) (fun i => 41 - (intOf i).toNat)
      case atStart => exact ⟨0, by omega, rfl, Lib.hid (.inl ⟨Nat.zero_le _, by simp⟩)⟩
      case round =>
        obtain ⟨k, hk, rfl, hJ⟩ := hrel
        by_cases hlt : k < p.size
        · have hS := Lib.hid (hJ.out.step (by rw [hsz.out]; exact hlt))
          have hle : behindN p.data.toList k ≤ 41 := by
            have := hS.out.1
            rcases this with h | h
            · have := h.1; rw [hsz.out] at this; omega
            · have := h.1; rw [hsz.out] at this; omega
          have hgt := hS.out.2
          go_wp2_with (go_at_call 125; refine (behind_any p k hlt (by omega) _).mono ?_; rintro e w' ⟨rfl, rfl⟩)
          go_round
          case rel => exact ⟨behindN p.data.toList k, hle, rfl, Lib.hid hS.out.1⟩
          case measure => simp [intOf]; omega
        · have hD := Lib.hid (hJ.out.done (by rw [hsz.out]; omega) (by rw [hsz.out]; exact h1) (by rw [hsz.out]; exact h2))
          go_wp2
          go_ret
          exact ⟨ret_bool (by rw [← hD.out, hsz.out]; rw [Bool.eq_iff_iff]; simp; omega), rfl⟩
    · go_enter Tryd.func115, Tryd.ntmps115
      have h2' : (40 : Int) < (p.size : Int) := by omega
      go_wp2
      go_ret
      exact ⟨ret_bool (globOk_short _ (by rw [hsz.out]; omega)).symm, rfl⟩
  · go_enter Tryd.func115, Tryd.ntmps115
    have h1' : (p.size : Int) < 1 := by omega
    go_wp2
    go_ret
    exact ⟨ret_bool (globOk_short _ (by rw [hsz.out]; omega)).symm, rfl⟩
end Go.Proofs.YtbadpmghlclfkaaDoor
namespace Go.Proofs.YtbadpmghlclfkaaDoor
open Go.RowKit

def ptV : Pt → List Value
  | .star => [.bool true, .bool false, .int .u8 0]
  | .any => [.bool false, .bool true, .int .u8 0]
  | .byte b => [.bool false, .bool false, .int .u8 (b.toNat : Int)]
theorem ptV_three (x : Pt) : (ptV x).length = 3 := by cases x <;> rfl
theorem ptV_row (ps : List Pt) : (ps.flatMap ptV).length = ps.length * 3 := by
  induction ps with
  | nil => rfl
  | cons p ps ih => rw [List.flatMap_cons, List.length_append, ih, ptV_three, List.length_cons]; omega
/-- A row of parts of the call's own. -/
def OwnParts (w : World) (base : Nat) (v : Value) (ps : List Pt) : Prop := w.ownsRow base 147 3 v ps.length (ps.flatMap ptV)
theorem OwnParts.alloc {w : World} {base : Nat} {v : Value} {ps : List Pt} (h : OwnParts w base v ps) (o : Obj) : OwnParts (w.alloc o) base v ps := World.ownsRow.alloc h o
theorem Tryd.info147 : (Tryd.prog.info? 147).map (fun i => (i.zero, i.size, i.bytes)) = some (some (.agg #[.bool false, .bool false, .int .u8 0]), 3, 3) := by kernel_rfl
theorem new_part (w : World) (x : Pt) (t : TypeId) (j : Nat) (u : Value) (h : (ptV x)[j]? = some u) : (w.alloc (.cells (ptV x).toArray t)).cell? ((⟨w.heap.size, 0, none⟩ : Addr).add j) = some u := by
  have e1 : (⟨w.heap.size, 0, none⟩ : Addr).add j = ⟨w.heap.size, j, none⟩ := by unfold Addr.add; split <;> simp_all
  rw [e1, cell_of_row _ _ _ _ _ _ (heap_alloc_new w _), List.getElem?_toArray, h]
/-- One part appended. -/
theorem wpList_append_part {w w0 : World} {ops : Array Oper} {rest : List Oper} {o : Oper} {a : Act} {Q : Exit → Act → World → Prop} (hgd : o.guard = none) (s x : Operand)
    (ho : o.op = .call { callee := .builtin .append, args := #[s, x], argTypes := #[138, 138] })
    (base : Nat) (v : Value) (ps : List Pt) (p : Pt) (t : TypeId) (hs : a.eval s = v) (hown : OwnParts w base v ps) (hx : a.eval x = .slice (some ⟨w.heap.size, 0, none⟩) 1 1)
    (hlen : ps.length < 2097152) (hbel : Below base w0 w) (hB : base ≤ w.heap.size)
    (h : ∀ v' w', OwnParts w' base v' (ps ++ [p]) → Below base w0 w' → wpList Tryd.prog ops Q rest (a.put o.dst v') w') : wpList Tryd.prog ops Q (o :: rest) a (w.alloc (.cells (ptV p).toArray t)) := by
  obtain ⟨i0, hi, hz0, hz1, hz2⟩ := info_parts Tryd.info147
  refine wpList_append_own _ hgd s x 138 ho base 147 i0 _ 3 3 Tryd.underlying138 hi hz0 hz1 hz2 rfl (by decide) v ps.length _ hs (hown.alloc _) ⟨w.heap.size, 0, none⟩ 1 1 (ptV p) hx (ptV_three p) (fun j u hj => new_part w p t j u hj) ?_ (by unfold maxLen; omega) (by omega) (by simp; omega) ?_
  · intro u hu
    cases p <;> (simp [ptV] at hu; rcases hu with rfl | rfl | rfl <;> rfl)
  · intro v' w' ho' hg _
    refine h v' w' ?_ (own_kept (World.ownsRow.alloc hown _) (hbel.alloc hB _) hg (by simp; omega))
    unfold OwnParts
    rw [List.flatMap_append, List.length_append]
    rw [List.flatMap_cons, List.flatMap_nil, List.append_nil]
    exact ho'

/-- How far the parts have been read. -/
def PartsAt (l : List UInt8) (k : Nat) (pre : List Pt) : Prop := pre.length ≤ k ∧ parts l = (parts (l.drop k)).map (pre ++ ·)
theorem PartsAt.put {l : List UInt8} {k n : Nat} {pre : List Pt} {x : Pt} (h : PartsAt l k pre) (hk : k + 1 ≤ n) (hx : parts (l.drop k) = (parts (l.drop n)).map (x :: ·)) : PartsAt l n (pre ++ [x]) := by
  refine ⟨by have := h.1; simp; omega, ?_⟩
  rw [h.2, hx]
  cases parts (l.drop n) <;> simp
/-- What l03Parts answers. -/
def PartsEnd (l : List UInt8) (B : Nat) (w' : World) (e : Ending) : Prop :=
  ∃ v, e = .returned (.tuple #[v, .bool (globOk l)]) ∧ (∃ A len cap, v = .slice A len cap) ∧ (globOk l = true → ∃ ps, parts l = some ps ∧ OwnParts w' B v ps ∧ ps.length ≤ 40)
theorem own_slice {w : World} {base : Nat} {e : TypeId} {size n : Nat} {v : Value} {xs : List Value} (h : w.ownsRow base e size v n xs) : ∃ A cap, v = .slice A n cap := by
  rcases h.2 with ⟨rfl, rfl⟩ | ⟨g, cap, cur, rfl, _⟩
  · exact ⟨none, 0, rfl⟩
  · exact ⟨_, cap, rfl⟩
theorem PartsAt.all {l : List UInt8} {pre : List Pt} (h : PartsAt l l.length pre) : parts l = some pre := by
  rw [h.2, parts_end (Nat.le_refl _)]; simp
theorem parts_end_of {l : List UInt8} {pre : List Pt} {w : World} {B : Nat} {v : Value} (h : PartsAt l l.length pre) (ho : OwnParts w B v pre) : PartsEnd l B w (.returned (.tuple #[v, .bool (globOk l)])) := by
  obtain ⟨A, cap, rfl⟩ := own_slice ho
  exact ⟨_, rfl, ⟨A, _, cap, rfl⟩, fun hg => ⟨pre, h.all, ho, by have := h.1; simp [globOk] at hg; omega⟩⟩
theorem ok_of {l : List UInt8} {pre : List Pt} (h : PartsAt l l.length pre) : globOk l = (decide (1 ≤ l.length) && decide (l.length ≤ 40)) := by
  simp [globOk, h.all]

set_option maxRecDepth 20000 in
set_option maxHeartbeats 2000000 in
theorem specParts_any (p : ByteArray) (hp : p.size ≤ 1048576) (w : World) :
    Calls Tryd.prog 112 #[.string p] w fun e w' => PartsEnd p.data.toList w.heap.size w' e ∧ Below w.heap.size w w' := by
  have hsz := Lib.hid (size_data p)
  go_enter Tryd.func112, Tryd.ntmps112
  go_wp2
  go_loopw [4, 5] (fun v i wr => ∃ (pre : List Pt) (k : Nat), k ≤ p.size ∧ i = .int .i64 (k : Int) ∧ OwnParts wr w.heap.size v pre ∧ Below w.heap.size w wr ∧ Hid (PartsAt p.data.toList k pre)) (fun _ i _ => p.size - (intOf i).toNat)
  case atStart => exact ⟨[], 0, Nat.zero_le _, rfl, World.ownsRow_made w #[] 0 (Nat.le_refl _) (by simp) rfl, (Below.refl _ _).alloc (Nat.le_refl _) _, Lib.hid ⟨Nat.le_refl _, by simp⟩⟩
  case round =>
    obtain ⟨pre, k, hk, rfl, hown, hbel, hJ⟩ := hrel
    have hB := hbel.size
    have hpre : pre.length ≤ 1048576 := by have := hJ.out.1; omega
    by_cases hlt : k < p.size
    · have hat := Lib.hid (toList_at p k hlt)
      by_cases h1 : p[k] = 42
      · have t1 : ((p[k].toNat : Int) == 42) = true := is_byte (c := p[k]) 42 h1 (by decide)
        have hn := Lib.hid (hJ.out.put (n := k + 1) (Nat.le_refl _) (parts_star (by rw [hat.out, h1])))
        clear h1
        have hown := Lib.hid hown
        have hbel := Lib.hid hbel
        go_wp2_with (at_builtin; refine wpList_append_part rfl (.tmp 25) (.tmp 27) rfl w.heap.size _ pre .star 147 rfl hown.out rfl (by omega) hbel.out hB ?_; intro v' w1 ho1 hb1; replace ho1 := Lib.hid ho1; replace hb1 := Lib.hid hb1)
        go_roundw
        case rel => exact ⟨_, k + 1, by omega, by go_num, ho1.out, hb1.out, hn⟩
        case measure => simp [intOf]; omega
      · have t1 : ((p[k].toNat : Int) == 42) = false := not_byte (c := p[k]) 42 h1 (by decide)
        by_cases h2 : p[k] = 63
        · have t2 : ((p[k].toNat : Int) == 63) = true := is_byte (c := p[k]) 63 h2 (by decide)
          have hn := Lib.hid (hJ.out.put (n := k + 1) (Nat.le_refl _) (parts_any (by rw [hat.out, h2])))
          clear h1 h2
          have hown := Lib.hid hown
          have hbel := Lib.hid hbel
          go_wp2_with (at_builtin; refine wpList_append_part rfl (.tmp 31) (.tmp 33) rfl w.heap.size _ pre .any 147 rfl hown.out rfl (by omega) hbel.out hB ?_; intro v' w1 ho1 hb1; replace ho1 := Lib.hid ho1; replace hb1 := Lib.hid hb1)
          go_roundw
          case rel => exact ⟨_, k + 1, by omega, by go_num, ho1.out, hb1.out, hn⟩
          case measure => simp [intOf]; omega
        · have t2 : ((p[k].toNat : Int) == 63) = false := not_byte (c := p[k]) 63 h2 (by decide)
          by_cases h3 : p[k] = 92
          · have t3 : ((p[k].toNat : Int) == 92) = true := is_byte (c := p[k]) 92 h3 (by decide)
            by_cases h4 : k + 1 < p.size
            · have hn := Lib.hid (hJ.out.put (n := k + 2) (by omega) (parts_back (by rw [hat.out, h3]) (toList_at p (k + 1) h4)))
              have h4' : ((k : Int) + 1 == (p.size : Int)) = false := by rw [beq_eq_false_iff_ne]; omega
              clear h1 h2 h3
              have hown := Lib.hid hown
              have hbel := Lib.hid hbel
              go_wp2_with (at_builtin; refine wpList_append_part rfl (.tmp 45) (.tmp 50) rfl w.heap.size _ pre (.byte p[k + 1]) 147 rfl hown.out rfl (by omega) hbel.out hB ?_; intro v' w1 ho1 hb1; replace ho1 := Lib.hid ho1; replace hb1 := Lib.hid hb1)
              go_roundw
              case rel => exact ⟨_, k + 2, by omega, by go_num, ho1.out, hb1.out, hn⟩
              case measure => simp [intOf]; omega
            · have hbad := Lib.hid (show globOk p.data.toList = false by
                have := hJ.out.2
                rw [parts_back_end (by rw [hat.out, h3]) (by rw [hsz.out]; omega)] at this
                simp [globOk, this])
              have h4' : ((k : Int) + 1 == (p.size : Int)) = true := by simp; omega
              clear h1 h2 h3
              obtain ⟨A, cap, rfl⟩ := own_slice hown
              have hown := Lib.hid hown
              have hbel := Lib.hid hbel
              go_wp2
              refine bodyPost_ret (v := .tuple #[.slice A pre.length cap, .bool false]) (by simp [results, Tryd.results112, go_sem]) rfl ⟨⟨_, by rw [hbad.out], ⟨_, _, _, rfl⟩, fun h => by rw [hbad.out] at h; cases h⟩, hbel.out⟩
          · have t3 : ((p[k].toNat : Int) == 92) = false := not_byte (c := p[k]) 92 h3 (by decide)
            have hn := Lib.hid (hJ.out.put (n := k + 1) (Nat.le_refl _) (parts_byte hat.out h1 h2 h3))
            clear h1 h2 h3
            have hown := Lib.hid hown
            have hbel := Lib.hid hbel
            go_wp2_with (at_builtin; refine wpList_append_part rfl (.tmp 16) (.tmp 21) rfl w.heap.size _ pre (.byte p[k]) 147 rfl hown.out rfl (by omega) hbel.out hB ?_; intro v' w1 ho1 hb1; replace ho1 := Lib.hid ho1; replace hb1 := Lib.hid hb1)
            go_roundw
            case rel => exact ⟨_, k + 1, by omega, by go_num, ho1.out, hb1.out, hn⟩
            case measure => simp [intOf]; omega
    · have hD := Lib.hid (show PartsAt p.data.toList p.data.toList.length pre by rw [hsz.out, show p.size = k by omega]; exact hJ.out)
      have hok := Lib.hid (ok_of hD.out)
      have hE := Lib.hid (parts_end_of hD.out hown)
      have hbel := Lib.hid hbel
      clear hown
      by_cases h1 : 1 ≤ p.size
      · by_cases h2 : p.size ≤ 40
        · have hg : Hid (globOk p.data.toList = true) := Lib.hid (by rw [hok.out, hsz.out]; simp [h1, h2])
          go_wp2
          refine bodyPost_ret (v := .tuple #[u4, .bool true]) (by simp [results, Tryd.results112, go_sem, show (p.size : Int) ≤ 40 by omega]) rfl ⟨by have := hE.out; rw [hg.out] at this; exact this, hbel.out⟩
        · have hg : Hid (globOk p.data.toList = false) := Lib.hid (by rw [hok.out, hsz.out]; simp [h2])
          have h2' : (40 : Int) < (p.size : Int) := by omega
          go_wp2
          refine bodyPost_ret (v := .tuple #[u4, .bool false]) (by simp [results, Tryd.results112, go_sem, h2']) rfl ⟨by have := hE.out; rw [hg.out] at this; exact this, hbel.out⟩
      · have hg : Hid (globOk p.data.toList = false) := Lib.hid (by rw [hok.out, hsz.out]; simp [h1])
        have h1' : (p.size : Int) < 1 := by omega
        go_wp2
        refine bodyPost_ret (v := .tuple #[u4, .bool false]) (by simp [results, Tryd.results112, go_sem]) rfl ⟨by have := hE.out; rw [hg.out] at this; exact this, hbel.out⟩

set_option maxHeartbeats 1000000 in
theorem specRight_any (p : ByteArray) (hp : p.size ≤ 1048576) (w : World) :
    Calls Tryd.prog 92 #[.string p] w fun e w' => e = .returned (.bool (globOk p.data.toList)) ∧ Below w.heap.size w w' := by
  go_enter Tryd.func92, Tryd.ntmps92
  go_wp2_with (go_at_call 112; refine (specParts_any p hp _).mono ?_; rintro e w1 ⟨⟨v, rfl, ⟨A, len, cap, rfl⟩, hO⟩, hb⟩; replace hO := Lib.hid hO; replace hb := Lib.hid hb)
  go_ret
  exact ⟨rfl, hb.out⟩
end Go.Proofs.YtbadpmghlclfkaaDoor
