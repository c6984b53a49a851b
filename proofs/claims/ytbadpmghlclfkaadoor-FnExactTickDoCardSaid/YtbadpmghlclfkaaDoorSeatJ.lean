/- Who asks for what: the marks as they are gathered; the program's askedBy. The premise 'Four': the table holds 1, 2, 4, 8. What is heard: what it leaves; the model's Hear. Hear: the model's and the program's. The program's by the premise 'Four'. -/
import Derived.Test.YtbadpmghlclfkaaDoorSeatB
import Derived.Test.YtbadpmghlclfkaaDoorGlobC
import Derived.Test.YtbadpmghlclfkaaDoorGlobS
import Derived.Test.YtbadpmghlclfkaaDoorVaultD
import Derived.Test.YtbadpmghlclfkaaDoorOwn2
import Derived.Test.YtbadpmghlclfkaaDoorSeatC
import Derived.Test.YtbadpmghlclfkaaDoorVaultU
import Derived.Test.YtbadpmghlclfkaaDoorKnownS
namespace Go.Proofs.YtbadpmghlclfkaaDoor
open Go.RowKit
/-- Does the text end with what the glob means? -/
noncomputable def endsB (p t : ByteArray) : Bool := @decide (EndsG p.data.toList t.data.toList) (Classical.propDecidable _)
theorem endsB_of {p t : ByteArray} {b : Bool} (h : b = true ↔ EndsG p.data.toList t.data.toList) : b = endsB p t := by
  unfold endsB
  exact Bool.eq_iff_iff.2 (h.trans (@decide_eq_true_iff _ (Classical.propDecidable _)).symm)
theorem implEndsB_any (p t : ByteArray) (hp : p.size ≤ maxLen) (ht : t.size ≤ maxLen) (w : World) :
    Calls Tryd.prog 116 #[.string p, .string t] w (Gives (.bool (endsB p t)) w) := by
  refine (implEnds_any p t hp ht w).mono ?_
  rintro e w' ⟨⟨b, h1, rfl⟩, hb⟩
  exact ⟨by rw [endsB_of h1], hb⟩
theorem specEndsB_any (p t : ByteArray) (hp : p.size ≤ 1048576) (ht : t.size ≤ maxLen) (w : World) :
    Calls Tryd.prog 113 #[.string p, .string t] w (Gives (.bool (endsB p t)) w) := by
  refine (specEnds_any p t hp ht w).mono ?_
  rintro e w' ⟨⟨b, h1, rfl⟩, hb⟩
  exact ⟨by rw [endsB_of h1], hb⟩
/-- Is the secret at a place asked for? -/
noncomputable def asksB (n : Int) (x : ByteArray) (v : List Sec) (k : Nat) : Bool := match v[k]? with | some y => decide (y.seat = n) && endsB y.prompt x | none => false
theorem asks_of {n : Int} {x : ByteArray} {v : List Sec} {k : Nat} (hk : k < v.length) : asksB n x v k = (decide (v[k].seat = n) && endsB v[k].prompt x) := by simp [asksB, List.getElem?_eq_getElem hk]
theorem asks_not {n : Int} {x : ByteArray} {v : List Sec} {k : Nat} (hk : k < v.length) (h : (v[k].seat == n) = false) : asksB n x v k = false := by
  rw [asks_of hk]
  rw [beq_eq_false_iff_ne] at h
  simp [h]
theorem asks_ends {n : Int} {x : ByteArray} {v : List Sec} {k : Nat} (hk : k < v.length) (h : (v[k].seat == n) = true) : asksB n x v k = endsB v[k].prompt x := by
  rw [asks_of hk]
  rw [beq_iff_eq] at h
  simp [h]
/-- Marks gathered, place by place. -/
def acc (f : Nat → Bool) (q : Int) : Nat → Int
  | 0 => q
  | k + 1 => if f k then orI (acc f q k) (2 ^ k) else acc f q k
theorem acc_yes {f : Nat → Bool} {q : Int} {k : Nat} (h : f k = true) : acc f q (k + 1) = orI (acc f q k) (2 ^ k) := by rw [acc, if_pos h]
theorem acc_no {f : Nat → Bool} {q : Int} {k : Nat} (h : f k = false) : acc f q (k + 1) = acc f q k := by rw [acc, if_neg (by simp [h])]
def accB (b0 b1 b2 b3 : Bool) (k : Nat) (q : Int) : Int := acc (fun i => if i = 0 then b0 else if i = 1 then b1 else if i = 2 then b2 else b3) q k
theorem acc_fits : ∀ (b0 b1 b2 b3 : Bool) (k : Fin 5) (q : Fin 16), orI q.1 (accB b0 b1 b2 b3 k.1 0) = accB b0 b1 b2 b3 k.1 q.1 ∧ 0 ≤ accB b0 b1 b2 b3 k.1 q.1 ∧ accB b0 b1 b2 b3 k.1 q.1 ≤ 15 := by decide +kernel
theorem acc_eq {f g : Nat → Bool} {q : Int} : ∀ (k : Nat), (∀ i, i < k → f i = g i) → acc f q k = acc g q k
  | 0, _ => rfl
  | k + 1, h => by rw [acc, acc, h k (by omega), acc_eq k (fun i hi => h i (by omega))]
theorem acc_B (f : Nat → Bool) (q : Int) (k : Nat) (hk : k ≤ 4) : acc f q k = accB (f 0) (f 1) (f 2) (f 3) k q := by
  refine acc_eq k fun i hi => ?_
  rcases (show i = 0 ∨ i = 1 ∨ i = 2 ∨ i = 3 by omega) with rfl | rfl | rfl | rfl <;> rfl
theorem acc_or (f : Nat → Bool) (q : Int) (hq : 0 ≤ q ∧ q ≤ 15) (k : Nat) (hk : k ≤ 4) : orI q (acc f 0 k) = acc f q k ∧ 0 ≤ acc f q k ∧ acc f q k ≤ 15 := by
  obtain ⟨m, rfl⟩ : ∃ m : Nat, q = (m : Int) := ⟨q.toNat, by omega⟩
  rw [acc_B f _ k hk, acc_B f _ k hk]
  exact acc_fits (f 0) (f 1) (f 2) (f 3) ⟨k, by omega⟩ ⟨m, by omega⟩
theorem Four.at_ {w : World} (h : Four w) {k : Nat} (hk : k < 4) : w.cell? ⟨1, k, none⟩ = some (.int .i64 (2 ^ k)) := by
  obtain ⟨h0, h1, h2, h3⟩ := h
  rcases (show k = 0 ∨ k = 1 ∨ k = 2 ∨ k = 3 by omega) with rfl | rfl | rfl | rfl
  · exact h0
  · exact h1
  · exact h2
  · exact h3
set_option maxHeartbeats 4000000 in
theorem askedBy_any (x : ByteArray) (n : Int) (v : Value) (l : List Sec) (w : World) (hx : x.size ≤ maxLen) (h4 : l.length ≤ 4) (hv : Secs w v l) (hg : Four w) :
    Calls Tryd.prog 100 #[.string x, .int .i64 n, v] w (Gives (.int .i64 (acc (asksB n x l) 0 l.length)) w) := by
  obtain ⟨A, cap, rfl⟩ := hv.form
  have hv' := Lib.hid hv
  replace hg := Lib.hid hg
  clear hv
  go_enter Tryd.func100, Tryd.ntmps100
  go_wp2
  go_loopw [7, 12] (fun u i wr => ∃ k : Nat, k ≤ l.length ∧ i = .int .i64 (k : Int) ∧ u = .int .i64 (acc (asksB n x l) 0 k) ∧ Hid (Below w.heap.size w wr)) (fun _ i _ => l.length - (intOf i).toNat)
  case atStart => exact ⟨0, Nat.zero_le _, rfl, rfl, Lib.hid (Below.refl _ _)⟩
  case round =>
    obtain ⟨k, hk, rfl, rfl, hb⟩ := hrel
    by_cases hlt : k < l.length
    · have hlt' : (k : Int) < (l.length : Int) := by omega
      have hk4 : k < 4 := by omega
      have hk4' : (k : Int) < 4 := by omega
      have hsecs := Lib.hid (hv'.out.below hb.out)
      obtain ⟨bb, off, rfl, hbk, c0, c1, c2, c3⟩ := hsecs.out.four k hlt
      have hwf := Lib.hid (hsecs.out.wf hlt).2.2.1
      have hgr := Lib.hid (hg.out.below hb.out)
      cases hse : (l[k].seat == n) with
      | false =>
        have hno := Lib.hid (acc_no (q := 0) (asks_not (x := x) hlt hse))
        go_wp2
        go_roundw
        case rel => exact ⟨k + 1, by omega, by go_num, by rw [hno.out], Lib.hid (hb.out.alloc hb.out.size _)⟩
        case measure => simp [intOf]; omega
      | true =>
        cases hen : endsB l[k].prompt x with
        | false =>
          have hno := Lib.hid (acc_no (q := 0) (show asksB n x l k = false by rw [asks_ends hlt hse, hen]))
          go_wp2_with (go_at_call 116; refine (implEndsB_any _ _ hwf.out hx _).mono ?_; rintro e w1 ⟨rfl, hb1⟩; rw [hen]; replace hb1 := Lib.hid hb1)
          go_roundw
          case rel => exact ⟨k + 1, by omega, by go_num, by rw [hno.out], Lib.hid (Below.then_ (hb.out.alloc hb.out.size _) hb1.out (Nat.le_refl _))⟩
          case measure => simp [intOf]; omega
        | true =>
          have hye := Lib.hid (acc_yes (q := 0) (show asksB n x l k = true by rw [asks_ends hlt hse, hen]))
          go_wp2_with (go_at_call 116; refine (implEndsB_any _ _ hwf.out hx _).mono ?_; rintro e w1 ⟨rfl, hb1⟩; rw [hen]; have hgk := ((hgr.out.below ((Below.refl _ _).alloc (Nat.le_refl _) _)).below hb1).at_ hk4; replace hb1 := Lib.hid hb1)
          go_roundw
          case rel => exact ⟨k + 1, by omega, by go_num, by rw [hye.out]; rfl, Lib.hid (Below.then_ (hb.out.alloc hb.out.size _) hb1.out (Nat.le_refl _))⟩
          case measure => simp [intOf]; omega
    · have hlt' : ¬ (k : Int) < (l.length : Int) := by omega
      obtain rfl : k = l.length := by omega
      go_wp2
      go_ret
      exact ⟨rfl, hb.out⟩
end Go.Proofs.YtbadpmghlclfkaaDoor
namespace Go.Proofs.YtbadpmghlclfkaaDoor
open Go.RowKit
/-- What a right seat has heard. -/
noncomputable def heardR (b o : Bool) (s : ByteArray) (q : Int) (t : ByteArray) (l : List Int) (n : Int) (m : List Sec) (x : ByteArray) : SeaR := if 120 < s.size + x.size then noSeat 0 9 else ⟨b, o, s ++ x, acc (asksB n (s ++ x) m) q m.length, t, l, 0, 0⟩
theorem heardR_full {b o : Bool} {s : ByteArray} {q : Int} {t : ByteArray} {l : List Int} {n : Int} {m : List Sec} {x : ByteArray} (h : 120 < s.size + x.size) : heardR b o s q t l n m x = noSeat 0 9 := if_pos h
theorem heardR_ok {b o : Bool} {s : ByteArray} {q : Int} {t : ByteArray} {l : List Int} {n : Int} {m : List Sec} {x : ByteArray} (h : ¬ 120 < s.size + x.size) : heardR b o s q t l n m x = ⟨b, o, s ++ x, acc (asksB n (s ++ x) m) q m.length, t, l, 0, 0⟩ := if_neg h
/-- What Hear hands back. -/
noncomputable def hearR (b o : Bool) (s : ByteArray) (q : Int) (t : ByteArray) (l : List Int) (n : Int) (m : List Sec) (x : ByteArray) : SeaR :=
  if 8000 < x.size ∨ 400 < m.length then noSeat 0 2 else if seatB s q t l = true ∧ vaultB m = true ∧ isB n 0 2 = true then heardR b o s q t l n m x else noSeat 0 1
set_option maxRecDepth 100000 in
set_option maxHeartbeats 16000000 in
theorem specHeard_any (b o : Bool) (s : ByteArray) (q : Int) (t : ByteArray) (v : Value) (l : List Int) (n : Int) (u : Value) (m : List Sec) (x : ByteArray) (w : World) (hq : 0 ≤ q ∧ q ≤ 15) (hs : s.size ≤ 120) (hx : x.size ≤ 8000) (h4 : m.length ≤ 4) (hsml : ∀ x ∈ m, secSmall x) (hv : Ints w v l) (hu : Secs w u m) :
    Calls Tryd.prog 94 #[.agg #[.bool b, .bool o, .string s, .int .i64 q, .string t, v], .int .i64 n, u, .string x] w (SeatOutEnd w.heap.size (heardR b o s q t l n m x) w) := by
  obtain ⟨A, cap, rfl⟩ := hv.form
  obtain ⟨A2, cap2, rfl⟩ := hu.form
  have hbb := boxes2 w [.bool b, .bool o, .string s, .int .i64 q, .string t, .slice A l.length cap] [.bool false, .bool false, .string ⟨#[]⟩, .int .i64 0, .string ⟨#[]⟩, .slice none 0 0, .int .i64 0, .int .i64 0] 56 58
  have hB := Lib.hid hbb.1
  have hR := Lib.hid hbb.2
  have hbW := Lib.hid (((Below.refl w.heap.size w).alloc (Nat.le_refl _) (.cells #[.bool b, .bool o, .string s, .int .i64 q, .string t, .slice A l.length cap] 56)).alloc (by simp) (.cells #[.bool false, .bool false, .string ⟨#[]⟩, .int .i64 0, .string ⟨#[]⟩, .slice none 0 0, .int .i64 0, .int .i64 0] 58))
  have hIn := Lib.hid ((hv.alloc (.cells #[.bool b, .bool o, .string s, .int .i64 q, .string t, .slice A l.length cap] 56)).alloc (.cells #[.bool false, .bool false, .string ⟨#[]⟩, .int .i64 0, .string ⟨#[]⟩, .slice none 0 0, .int .i64 0, .int .i64 0] 58))
  have hu' := Lib.hid hu
  have hsx := Lib.hid (show (s ++ x).size ≤ maxLen by rw [ByteArray.size_append]; unfold maxLen; omega)
  have hadd := fun (w : World) => run_string_add_sum (P := Tryd.prog) w s x (by omega)
  replace hsml := Lib.hid hsml
  replace hq := Lib.hid hq
  clear hv hu hbb
  by_cases h1 : 120 < s.size + x.size
  · have h1' : (120 : Int) < (s.size : Int) + (x.size : Int) := by omega
    have e0 := Lib.hid (heardR_full (b := b) (o := o) (q := q) (t := t) (l := l) (n := n) (m := m) h1)
    clear h1
    obtain ⟨hz0, hz1, hz2, hz3, hz4, hz5, -, -, -, -, -, -⟩ := hB.out.six
    go_enter Tryd.func94, Tryd.ntmps94
    go_wp2_with (go_at_call 64; refine (specIll_any _ _).mono ?_; rintro e3 w3 ⟨rfl, hb3⟩; replace hbW := Lib.hid (Below.then_ hbW.out hb3 (Nat.le_refl _)); replace hR := Lib.hid (hR.out.up hb3); obtain ⟨y0, y1, y2, y3, y4, y5, y6, y7, yf0, yf1, yf2, yf3, yf4, yf5, yf6, yf7⟩ := hR.out.eight; have hly := hR.out.lt; clear hb3)
    refine bodyPost_ret (v := .agg #[.bool false, .bool false, .string ⟨#[]⟩, .int .i64 0, .string ⟨#[]⟩, .slice none 0 0, .int .i64 0, .int .i64 9]) (by simp [results, Tryd.results94, go_sem, y0, y1, y2, y3, y4, y5, y6, y7]) rfl ?_
    exact SeatOutEnd.none_ e0.out (below_set8 hbW.out (Nat.le_succ _) _ _ _ _ _ _ _ _)
  · have h1' : ¬ (120 : Int) < (s.size : Int) + (x.size : Int) := by omega
    have e0 := Lib.hid (heardR_ok (b := b) (o := o) (q := q) (t := t) (l := l) (n := n) (m := m) h1)
    clear h1
    go_enter Tryd.func94, Tryd.ntmps94
    go_wp2_with (go_at_call 93; refine (specSeatCopy_any b o s q t _ l _ hIn.out).mono ?_; rintro e1 w1 ⟨A1, cap1, rfl, ho, hb1⟩; have z1 := Lib.hid (show w.heap.size + 1 + 1 ≤ w1.heap.size from Nat.le_trans (by simp) hb1.size); replace ho := Lib.hid (Own2.new (lo := w.heap.size + 1 + 1) ho (by simp)); replace hbW := Lib.hid (Below.then_ hbW.out hb1 (Nat.le_refl _)); replace hB := Lib.hid (hB.out.up hb1); replace hR := Lib.hid (hR.out.up hb1); obtain ⟨x0, x1, x2, x3, x4, x5, xf0, xf1, xf2, xf3, xf4, xf5⟩ := hB.out.six; have hlx := hB.out.lt; have hly := hR.out.lt; clear hb1)
    have hz1 := z1.out
    have ho0 := Lib.hid (ho.out.alloc (.cells #[.bool b, .bool o, .string (s ++ x), .int .i64 (acc (asksB n (s ++ x) m) q 0), .string t, .slice A1 l.length cap1] 56))
    have hbW0 := Lib.hid (hbW.out.alloc hbW.out.size (.cells #[.bool b, .bool o, .string (s ++ x), .int .i64 (acc (asksB n (s ++ x) m) q 0), .string t, .slice A1 l.length cap1] 56))
    have hR0 := Lib.hid (hR.out.alloc (.cells #[.bool b, .bool o, .string (s ++ x), .int .i64 (acc (asksB n (s ++ x) m) q 0), .string t, .slice A1 l.length cap1] 56))
    have hO0 := Lib.hid (show Blk (w1.alloc (.cells #[.bool b, .bool o, .string (s ++ x), .int .i64 (acc (asksB n (s ++ x) m) q 0), .string t, .slice A1 l.length cap1] 56)) w1.heap.size 56 [.bool b, .bool o, .string (s ++ x), .int .i64 (acc (asksB n (s ++ x) m) q 0), .string t, .slice A1 l.length cap1] from heap_alloc_new w1 _)
    go_loopw [10] (fun i wr => ∃ k : Nat, k ≤ m.length ∧ i = .int .i64 (k : Int) ∧ Hid (Blk wr w1.heap.size 56 [.bool b, .bool o, .string (s ++ x), .int .i64 (acc (asksB n (s ++ x) m) q k), .string t, .slice A1 l.length cap1]) ∧ Hid (Blk wr (w.heap.size + 1) 58 [.bool false, .bool false, .string ⟨#[]⟩, .int .i64 0, .string ⟨#[]⟩, .slice none 0 0, .int .i64 0, .int .i64 0]) ∧ Hid (Own2 wr (w.heap.size + 1 + 1) w1.heap.size (.slice A1 l.length cap1) l) ∧ Hid (Below w.heap.size w wr)) (fun i _ => m.length - (intOf i).toNat)
    case atStart => exact ⟨0, Nat.zero_le _, rfl, hO0, hR0, ho0, hbW0⟩
    case round =>
      obtain ⟨k, hk, rfl, hO, hR, ho, hb⟩ := hrel
      by_cases hlt : k < m.length
      · have hlt' : (k : Int) < (m.length : Int) := by omega
        have hsecs := Lib.hid (hu'.out.below hb.out)
        obtain ⟨bb, off, rfl, hbk, -, -, -, -⟩ := hsecs.out.four k hlt
        have hwf := Lib.hid (hsml.out _ (List.getElem_mem hlt)).2.2
        cases hse : (m[k].seat == n) with
        | false =>
          have hno := Lib.hid (acc_no (q := q) (asks_not (x := s ++ x) hlt hse))
          go_wp2
          refine wp_region_known [(.is (.slice (some ⟨bb, off, none⟩) m.length cap2)), (.is (.int .i64 (k : Int))), (.is (.pointer (some ⟨bb, off + k * 4, none⟩))), (.is (.pointer (some ⟨bb, off + k * 4 + 1, none⟩))), (.is (.int .i64 m[k].seat)), (.is (.int .i64 n)), (.is (.bool false)), (.is (.bool false)), .any, .any, .any, .any, .any, .any, .any, .any, (.is (.bool false))] (by kernel_rfl) (by kernel_rfl) (by kernel_rfl) ⟨?_, ?_, ?_, ?_, ?_, ?_, ?_, ?_, ?_, ?_, ?_, ?_, ?_, ?_, ?_, ?_, ?_, trivial⟩ ?_
          · intro y W next hl hJ hd hn
            refine Or.inl ⟨wanted_free rfl, fun ev ec ef hev => ?_⟩
            have e2 : ev (.tmp 2) = .slice (some ⟨bb, off, none⟩) m.length cap2 := hev 2 _ ((hl.2 2 (by kernel_rfl)).trans (by kernel_rfl))
            clear hd hl hev
            replace hJ := Lib.hid hJ
            go_simp
            exact hn _ _ (Below.refl _ _) rfl
          · intro y W next hl hJ hd hn
            refine Or.inl ⟨wanted_free rfl, fun ev ec ef hev => ?_⟩
            have e10 : ev (.tmp 10) = .int .i64 (k : Int) := hev 10 _ ((hl.2 10 (by kernel_rfl)).trans (by kernel_rfl))
            clear hd hl hev
            replace hJ := Lib.hid hJ
            go_simp
            exact hn _ _ (Below.refl _ _) rfl
          · intro y W next hl hJ hd hn
            refine Or.inl ⟨wanted_free rfl, fun ev ec ef hev => ?_⟩
            have e32 : ev (.tmp 32) =  (.slice (some ⟨bb, off, none⟩) m.length cap2) := hev 32 _ ((hl.1 0 32 (by kernel_rfl) (by kernel_rfl)).trans (congrArg some (show y 0 =  (.slice (some ⟨bb, off, none⟩) m.length cap2) from hd 0 (by kernel_rfl))))
            have e33 : ev (.tmp 33) =  (.int .i64 (k : Int)) := hev 33 _ ((hl.1 1 33 (by kernel_rfl) (by kernel_rfl)).trans (congrArg some (show y 1 =  (.int .i64 (k : Int)) from hd 1 (by kernel_rfl))))
            clear hd hl hev
            replace hJ := Lib.hid hJ
            go_simp
            exact hn _ _ (Below.refl _ _) rfl
          · intro y W next hl hJ hd hn
            refine Or.inl ⟨wanted_free rfl, fun ev ec ef hev => ?_⟩
            have e34 : ev (.tmp 34) =  (.pointer (some ⟨bb, off + k * 4, none⟩)) := hev 34 _ ((hl.1 2 34 (by kernel_rfl) (by kernel_rfl)).trans (congrArg some (show y 2 =  (.pointer (some ⟨bb, off + k * 4, none⟩)) from hd 2 (by kernel_rfl))))
            clear hd hl hev
            replace hJ := Lib.hid hJ
            go_simp
            exact hn _ _ (Below.refl _ _) rfl
          · intro y W next hl hJ hd hn
            refine Or.inl ⟨wanted_free rfl, fun ev ec ef hev => ?_⟩
            have e35 : ev (.tmp 35) =  (.pointer (some ⟨bb, off + k * 4 + 1, none⟩)) := hev 35 _ ((hl.1 3 35 (by kernel_rfl) (by kernel_rfl)).trans (congrArg some (show y 3 =  (.pointer (some ⟨bb, off + k * 4 + 1, none⟩)) from hd 3 (by kernel_rfl))))
            clear hd hl hev
            obtain ⟨b', off', e', hb', p0, p1, p2, p3⟩ := (hsecs.out.below hJ).four k hlt
            cases e'
            replace hJ := Lib.hid hJ
            go_simp
            exact hn _ _ (Below.refl _ _) rfl
          · intro y W next hl hJ hd hn
            refine Or.inl ⟨wanted_free rfl, fun ev ec ef hev => ?_⟩
            have e1 : ev (.tmp 1) = .int .i64 n := hev 1 _ ((hl.2 1 (by kernel_rfl)).trans (by kernel_rfl))
            clear hd hl hev
            replace hJ := Lib.hid hJ
            go_simp
            exact hn _ _ (Below.refl _ _) rfl
          · intro y W next hl hJ hd hn
            refine Or.inl ⟨wanted_free rfl, fun ev ec ef hev => ?_⟩
            have e36 : ev (.tmp 36) =  (.int .i64 m[k].seat) := hev 36 _ ((hl.1 4 36 (by kernel_rfl) (by kernel_rfl)).trans (congrArg some (show y 4 =  (.int .i64 m[k].seat) from hd 4 (by kernel_rfl))))
            have e37 : ev (.tmp 37) =  (.int .i64 n) := hev 37 _ ((hl.1 5 37 (by kernel_rfl) (by kernel_rfl)).trans (congrArg some (show y 5 =  (.int .i64 n) from hd 5 (by kernel_rfl))))
            clear hd hl hev
            replace hJ := Lib.hid hJ
            go_simp
            exact hn _ _ (Below.refl _ _) rfl
          · intro y W next hl hJ hd hn
            refine Or.inl ⟨wanted_free rfl, fun ev ec ef hev => ?_⟩
            have e38 : ev (.tmp 38) =  (.bool false) := hev 38 _ ((hl.1 6 38 (by kernel_rfl) (by kernel_rfl)).trans (congrArg some (show y 6 =  (.bool false) from hd 6 (by kernel_rfl))))
            clear hd hl hev
            replace hJ := Lib.hid hJ
            go_simp
            exact hn _ _ (Below.refl _ _) rfl
          · intro y W next hl hJ hd hn
            exact Or.inr ⟨wanted_not (j := 7) (d := 39) rfl rfl rfl ((hl.1 7 39 (by kernel_rfl) (by kernel_rfl)).trans (congrArg some (show y 7 = .bool false from hd 7 (by kernel_rfl)))), hn _ _ (Below.refl _ _) trivial⟩
          · intro y W next hl hJ hd hn
            exact Or.inr ⟨wanted_not (j := 7) (d := 39) rfl rfl rfl ((hl.1 7 39 (by kernel_rfl) (by kernel_rfl)).trans (congrArg some (show y 7 = .bool false from hd 7 (by kernel_rfl)))), hn _ _ (Below.refl _ _) trivial⟩
          · intro y W next hl hJ hd hn
            exact Or.inr ⟨wanted_not (j := 7) (d := 39) rfl rfl rfl ((hl.1 7 39 (by kernel_rfl) (by kernel_rfl)).trans (congrArg some (show y 7 = .bool false from hd 7 (by kernel_rfl)))), hn _ _ (Below.refl _ _) trivial⟩
          · intro y W next hl hJ hd hn
            exact Or.inr ⟨wanted_not (j := 7) (d := 39) rfl rfl rfl ((hl.1 7 39 (by kernel_rfl) (by kernel_rfl)).trans (congrArg some (show y 7 = .bool false from hd 7 (by kernel_rfl)))), hn _ _ (Below.refl _ _) trivial⟩
          · intro y W next hl hJ hd hn
            exact Or.inr ⟨wanted_not (j := 7) (d := 39) rfl rfl rfl ((hl.1 7 39 (by kernel_rfl) (by kernel_rfl)).trans (congrArg some (show y 7 = .bool false from hd 7 (by kernel_rfl)))), hn _ _ (Below.refl _ _) trivial⟩
          · intro y W next hl hJ hd hn
            exact Or.inr ⟨wanted_not (j := 7) (d := 39) rfl rfl rfl ((hl.1 7 39 (by kernel_rfl) (by kernel_rfl)).trans (congrArg some (show y 7 = .bool false from hd 7 (by kernel_rfl)))), hn _ _ (Below.refl _ _) trivial⟩
          · intro y W next hl hJ hd hn
            exact Or.inr ⟨wanted_not (j := 7) (d := 39) rfl rfl rfl ((hl.1 7 39 (by kernel_rfl) (by kernel_rfl)).trans (congrArg some (show y 7 = .bool false from hd 7 (by kernel_rfl)))), hn _ _ (Below.refl _ _) trivial⟩
          · intro y W next hl hJ hd hn
            exact Or.inr ⟨wanted_not (j := 7) (d := 39) rfl rfl rfl ((hl.1 7 39 (by kernel_rfl) (by kernel_rfl)).trans (congrArg some (show y 7 = .bool false from hd 7 (by kernel_rfl)))), hn _ _ (Below.refl _ _) trivial⟩
          · intro y W next hl hJ hd hn
            refine Or.inl ⟨wanted_free rfl, fun ev ec ef hev => ?_⟩
            have e39 : ev (.tmp 39) =  (.bool false) := hev 39 _ ((hl.1 7 39 (by kernel_rfl) (by kernel_rfl)).trans (congrArg some (show y 7 =  (.bool false) from hd 7 (by kernel_rfl))))
            have e47 := hev 47 _ (hl.1 15 47 (by kernel_rfl) (by kernel_rfl))
            clear hd hl hev
            replace hJ := Lib.hid hJ
            go_simp
            exact hn _ _ (Below.refl _ _) rfl
          · intro y W hb3 hall
            have hy : y 16 = .bool false := hall 16 (by decide)
            replace hb := Lib.hid (Below.then_ hb.out hb3 (Nat.le_refl _))
            replace hO := Lib.hid (hO.out.up hb3)
            replace hR := Lib.hid (hR.out.up hb3)
            replace ho := Lib.hid (ho.out.below hb3)
            clear hall hb3
            simp only [lay_cons, lay_nil]
            rw [hy]
            clear hy
            simp only [Act.put, List.setIfInBounds_toArray]
            simp only [List.set_cons_succ, List.set_cons_zero]
            go_wp2
            go_roundw
            case rel => exact ⟨k + 1, by omega, by go_num, Lib.hid (by rw [hno.out]; exact hO.out), hR, ho, hb⟩
            case measure => simp [intOf]; omega
        | true =>
          cases hen : endsB m[k].prompt (s ++ x) with
          | false =>
            have hno := Lib.hid (acc_no (q := q) (show asksB n (s ++ x) m k = false by rw [asks_ends hlt hse, hen]))
            go_wp2
            refine wp_region_known [(.is (.slice (some ⟨bb, off, none⟩) m.length cap2)), (.is (.int .i64 (k : Int))), (.is (.pointer (some ⟨bb, off + k * 4, none⟩))), (.is (.pointer (some ⟨bb, off + k * 4 + 1, none⟩))), (.is (.int .i64 m[k].seat)), (.is (.int .i64 n)), (.is (.bool true)), (.is (.bool true)), (.is (.slice (some ⟨bb, off, none⟩) m.length cap2)), (.is (.int .i64 (k : Int))), (.is (.pointer (some ⟨bb, off + k * 4, none⟩))), (.is (.pointer (some ⟨bb, off + k * 4 + 3, none⟩))), (.is (.string m[k].prompt)), (.is (.pointer (some ⟨w1.heap.size, 2, none⟩))), (.is (.string (s ++ x))), (.is (.bool false)), (.is (.bool false))] (by kernel_rfl) (by kernel_rfl) (by kernel_rfl) ⟨?_, ?_, ?_, ?_, ?_, ?_, ?_, ?_, ?_, ?_, ?_, ?_, ?_, ?_, ?_, ?_, ?_, trivial⟩ ?_
            · intro y W next hl hJ hd hn
              refine Or.inl ⟨wanted_free rfl, fun ev ec ef hev => ?_⟩
              have e2 : ev (.tmp 2) = .slice (some ⟨bb, off, none⟩) m.length cap2 := hev 2 _ ((hl.2 2 (by kernel_rfl)).trans (by kernel_rfl))
              clear hd hl hev
              replace hJ := Lib.hid hJ
              go_simp
              exact hn _ _ (Below.refl _ _) rfl
            · intro y W next hl hJ hd hn
              refine Or.inl ⟨wanted_free rfl, fun ev ec ef hev => ?_⟩
              have e10 : ev (.tmp 10) = .int .i64 (k : Int) := hev 10 _ ((hl.2 10 (by kernel_rfl)).trans (by kernel_rfl))
              clear hd hl hev
              replace hJ := Lib.hid hJ
              go_simp
              exact hn _ _ (Below.refl _ _) rfl
            · intro y W next hl hJ hd hn
              refine Or.inl ⟨wanted_free rfl, fun ev ec ef hev => ?_⟩
              have e32 : ev (.tmp 32) =  (.slice (some ⟨bb, off, none⟩) m.length cap2) := hev 32 _ ((hl.1 0 32 (by kernel_rfl) (by kernel_rfl)).trans (congrArg some (show y 0 =  (.slice (some ⟨bb, off, none⟩) m.length cap2) from hd 0 (by kernel_rfl))))
              have e33 : ev (.tmp 33) =  (.int .i64 (k : Int)) := hev 33 _ ((hl.1 1 33 (by kernel_rfl) (by kernel_rfl)).trans (congrArg some (show y 1 =  (.int .i64 (k : Int)) from hd 1 (by kernel_rfl))))
              clear hd hl hev
              replace hJ := Lib.hid hJ
              go_simp
              exact hn _ _ (Below.refl _ _) rfl
            · intro y W next hl hJ hd hn
              refine Or.inl ⟨wanted_free rfl, fun ev ec ef hev => ?_⟩
              have e34 : ev (.tmp 34) =  (.pointer (some ⟨bb, off + k * 4, none⟩)) := hev 34 _ ((hl.1 2 34 (by kernel_rfl) (by kernel_rfl)).trans (congrArg some (show y 2 =  (.pointer (some ⟨bb, off + k * 4, none⟩)) from hd 2 (by kernel_rfl))))
              clear hd hl hev
              replace hJ := Lib.hid hJ
              go_simp
              exact hn _ _ (Below.refl _ _) rfl
            · intro y W next hl hJ hd hn
              refine Or.inl ⟨wanted_free rfl, fun ev ec ef hev => ?_⟩
              have e35 : ev (.tmp 35) =  (.pointer (some ⟨bb, off + k * 4 + 1, none⟩)) := hev 35 _ ((hl.1 3 35 (by kernel_rfl) (by kernel_rfl)).trans (congrArg some (show y 3 =  (.pointer (some ⟨bb, off + k * 4 + 1, none⟩)) from hd 3 (by kernel_rfl))))
              clear hd hl hev
              obtain ⟨b', off', e', hb', p0, p1, p2, p3⟩ := (hsecs.out.below hJ).four k hlt
              cases e'
              replace hJ := Lib.hid hJ
              go_simp
              exact hn _ _ (Below.refl _ _) rfl
            · intro y W next hl hJ hd hn
              refine Or.inl ⟨wanted_free rfl, fun ev ec ef hev => ?_⟩
              have e1 : ev (.tmp 1) = .int .i64 n := hev 1 _ ((hl.2 1 (by kernel_rfl)).trans (by kernel_rfl))
              clear hd hl hev
              replace hJ := Lib.hid hJ
              go_simp
              exact hn _ _ (Below.refl _ _) rfl
            · intro y W next hl hJ hd hn
              refine Or.inl ⟨wanted_free rfl, fun ev ec ef hev => ?_⟩
              have e36 : ev (.tmp 36) =  (.int .i64 m[k].seat) := hev 36 _ ((hl.1 4 36 (by kernel_rfl) (by kernel_rfl)).trans (congrArg some (show y 4 =  (.int .i64 m[k].seat) from hd 4 (by kernel_rfl))))
              have e37 : ev (.tmp 37) =  (.int .i64 n) := hev 37 _ ((hl.1 5 37 (by kernel_rfl) (by kernel_rfl)).trans (congrArg some (show y 5 =  (.int .i64 n) from hd 5 (by kernel_rfl))))
              clear hd hl hev
              replace hJ := Lib.hid hJ
              go_simp
              exact hn _ _ (Below.refl _ _) rfl
            · intro y W next hl hJ hd hn
              refine Or.inl ⟨wanted_free rfl, fun ev ec ef hev => ?_⟩
              have e38 : ev (.tmp 38) =  (.bool true) := hev 38 _ ((hl.1 6 38 (by kernel_rfl) (by kernel_rfl)).trans (congrArg some (show y 6 =  (.bool true) from hd 6 (by kernel_rfl))))
              clear hd hl hev
              replace hJ := Lib.hid hJ
              go_simp
              exact hn _ _ (Below.refl _ _) rfl
            · intro y W next hl hJ hd hn
              refine Or.inl ⟨wanted_of (j := 7) (d := 39) rfl rfl rfl ((hl.1 7 39 (by kernel_rfl) (by kernel_rfl)).trans (congrArg some (show y 7 = .bool true from hd 7 (by kernel_rfl)))), fun ev ec ef hev => ?_⟩
              have e2 : ev (.tmp 2) = .slice (some ⟨bb, off, none⟩) m.length cap2 := hev 2 _ ((hl.2 2 (by kernel_rfl)).trans (by kernel_rfl))
              clear hd hl hev
              replace hJ := Lib.hid hJ
              go_simp
              exact hn _ _ (Below.refl _ _) rfl
            · intro y W next hl hJ hd hn
              refine Or.inl ⟨wanted_of (j := 7) (d := 39) rfl rfl rfl ((hl.1 7 39 (by kernel_rfl) (by kernel_rfl)).trans (congrArg some (show y 7 = .bool true from hd 7 (by kernel_rfl)))), fun ev ec ef hev => ?_⟩
              have e10 : ev (.tmp 10) = .int .i64 (k : Int) := hev 10 _ ((hl.2 10 (by kernel_rfl)).trans (by kernel_rfl))
              clear hd hl hev
              replace hJ := Lib.hid hJ
              go_simp
              exact hn _ _ (Below.refl _ _) rfl
            · intro y W next hl hJ hd hn
              refine Or.inl ⟨wanted_of (j := 7) (d := 39) rfl rfl rfl ((hl.1 7 39 (by kernel_rfl) (by kernel_rfl)).trans (congrArg some (show y 7 = .bool true from hd 7 (by kernel_rfl)))), fun ev ec ef hev => ?_⟩
              have e40 : ev (.tmp 40) =  (.slice (some ⟨bb, off, none⟩) m.length cap2) := hev 40 _ ((hl.1 8 40 (by kernel_rfl) (by kernel_rfl)).trans (congrArg some (show y 8 =  (.slice (some ⟨bb, off, none⟩) m.length cap2) from hd 8 (by kernel_rfl))))
              have e41 : ev (.tmp 41) =  (.int .i64 (k : Int)) := hev 41 _ ((hl.1 9 41 (by kernel_rfl) (by kernel_rfl)).trans (congrArg some (show y 9 =  (.int .i64 (k : Int)) from hd 9 (by kernel_rfl))))
              clear hd hl hev
              replace hJ := Lib.hid hJ
              go_simp
              exact hn _ _ (Below.refl _ _) rfl
            · intro y W next hl hJ hd hn
              refine Or.inl ⟨wanted_of (j := 7) (d := 39) rfl rfl rfl ((hl.1 7 39 (by kernel_rfl) (by kernel_rfl)).trans (congrArg some (show y 7 = .bool true from hd 7 (by kernel_rfl)))), fun ev ec ef hev => ?_⟩
              have e42 : ev (.tmp 42) =  (.pointer (some ⟨bb, off + k * 4, none⟩)) := hev 42 _ ((hl.1 10 42 (by kernel_rfl) (by kernel_rfl)).trans (congrArg some (show y 10 =  (.pointer (some ⟨bb, off + k * 4, none⟩)) from hd 10 (by kernel_rfl))))
              clear hd hl hev
              replace hJ := Lib.hid hJ
              go_simp
              exact hn _ _ (Below.refl _ _) rfl
            · intro y W next hl hJ hd hn
              refine Or.inl ⟨wanted_of (j := 7) (d := 39) rfl rfl rfl ((hl.1 7 39 (by kernel_rfl) (by kernel_rfl)).trans (congrArg some (show y 7 = .bool true from hd 7 (by kernel_rfl)))), fun ev ec ef hev => ?_⟩
              have e43 : ev (.tmp 43) =  (.pointer (some ⟨bb, off + k * 4 + 3, none⟩)) := hev 43 _ ((hl.1 11 43 (by kernel_rfl) (by kernel_rfl)).trans (congrArg some (show y 11 =  (.pointer (some ⟨bb, off + k * 4 + 3, none⟩)) from hd 11 (by kernel_rfl))))
              clear hd hl hev
              obtain ⟨b', off', e', hb', p0, p1, p2, p3⟩ := (hsecs.out.below hJ).four k hlt
              cases e'
              replace hJ := Lib.hid hJ
              go_simp
              exact hn _ _ (Below.refl _ _) rfl
            · intro y W next hl hJ hd hn
              refine Or.inl ⟨wanted_of (j := 7) (d := 39) rfl rfl rfl ((hl.1 7 39 (by kernel_rfl) (by kernel_rfl)).trans (congrArg some (show y 7 = .bool true from hd 7 (by kernel_rfl)))), fun ev ec ef hev => ?_⟩
              have e9 : ev (.tmp 9) = .pointer (some ⟨w1.heap.size, 0, none⟩) := hev 9 _ ((hl.2 9 (by kernel_rfl)).trans (by kernel_rfl))
              clear hd hl hev
              replace hJ := Lib.hid hJ
              go_simp
              exact hn _ _ (Below.refl _ _) rfl
            · intro y W next hl hJ hd hn
              refine Or.inl ⟨wanted_of (j := 7) (d := 39) rfl rfl rfl ((hl.1 7 39 (by kernel_rfl) (by kernel_rfl)).trans (congrArg some (show y 7 = .bool true from hd 7 (by kernel_rfl)))), fun ev ec ef hev => ?_⟩
              have e45 : ev (.tmp 45) =  (.pointer (some ⟨w1.heap.size, 2, none⟩)) := hev 45 _ ((hl.1 13 45 (by kernel_rfl) (by kernel_rfl)).trans (congrArg some (show y 13 =  (.pointer (some ⟨w1.heap.size, 2, none⟩)) from hd 13 (by kernel_rfl))))
              clear hd hl hev
              obtain ⟨z0, z1, z2, z3, z4, z5, -, -, -, -, -, -⟩ := (hO.out.below hJ hO.out.lt).six
              replace hJ := Lib.hid hJ
              go_simp
              exact hn _ _ (Below.refl _ _) rfl
            · intro y W next hl hJ hd hn
              refine Or.inl ⟨wanted_of (j := 7) (d := 39) rfl rfl rfl ((hl.1 7 39 (by kernel_rfl) (by kernel_rfl)).trans (congrArg some (show y 7 = .bool true from hd 7 (by kernel_rfl)))), fun ev ec ef hev => ?_⟩
              have e44 : ev (.tmp 44) =  (.string m[k].prompt) := hev 44 _ ((hl.1 12 44 (by kernel_rfl) (by kernel_rfl)).trans (congrArg some (show y 12 =  (.string m[k].prompt) from hd 12 (by kernel_rfl))))
              have e46 : ev (.tmp 46) =  (.string (s ++ x)) := hev 46 _ ((hl.1 14 46 (by kernel_rfl) (by kernel_rfl)).trans (congrArg some (show y 14 =  (.string (s ++ x)) from hd 14 (by kernel_rfl))))
              clear hd hl hev
              replace hJ := Lib.hid hJ
              go_simp
              refine (specEndsB_any _ _ hwf.out hsx.out _).mono ?_
              rintro e w' ⟨rfl, hb⟩
              exact ⟨_, rfl, hn _ _ hb (by rw [hen]; rfl)⟩
            · intro y W next hl hJ hd hn
              refine Or.inl ⟨wanted_free rfl, fun ev ec ef hev => ?_⟩
              have e39 : ev (.tmp 39) =  (.bool true) := hev 39 _ ((hl.1 7 39 (by kernel_rfl) (by kernel_rfl)).trans (congrArg some (show y 7 =  (.bool true) from hd 7 (by kernel_rfl))))
              have e47 : ev (.tmp 47) =  (.bool false) := hev 47 _ ((hl.1 15 47 (by kernel_rfl) (by kernel_rfl)).trans (congrArg some (show y 15 =  (.bool false) from hd 15 (by kernel_rfl))))
              clear hd hl hev
              replace hJ := Lib.hid hJ
              go_simp
              exact hn _ _ (Below.refl _ _) rfl
            · intro y W hb3 hall
              have hy : y 16 = .bool false := hall 16 (by decide)
              replace hb := Lib.hid (Below.then_ hb.out hb3 (Nat.le_refl _))
              replace hO := Lib.hid (hO.out.up hb3)
              replace hR := Lib.hid (hR.out.up hb3)
              replace ho := Lib.hid (ho.out.below hb3)
              clear hall hb3
              simp only [lay_cons, lay_nil]
              rw [hy]
              clear hy
              simp only [Act.put, List.setIfInBounds_toArray]
              simp only [List.set_cons_succ, List.set_cons_zero]
              go_wp2
              go_roundw
              case rel => exact ⟨k + 1, by omega, by go_num, Lib.hid (by rw [hno.out]; exact hO.out), hR, ho, hb⟩
              case measure => simp [intOf]; omega
          | true =>
            have hye := Lib.hid (acc_yes (q := q) (show asksB n (s ++ x) m k = true by rw [asks_ends hlt hse, hen]))
            have hk4 : k < 4 := by omega
            go_wp2
            refine wp_region_known [(.is (.slice (some ⟨bb, off, none⟩) m.length cap2)), (.is (.int .i64 (k : Int))), (.is (.pointer (some ⟨bb, off + k * 4, none⟩))), (.is (.pointer (some ⟨bb, off + k * 4 + 1, none⟩))), (.is (.int .i64 m[k].seat)), (.is (.int .i64 n)), (.is (.bool true)), (.is (.bool true)), (.is (.slice (some ⟨bb, off, none⟩) m.length cap2)), (.is (.int .i64 (k : Int))), (.is (.pointer (some ⟨bb, off + k * 4, none⟩))), (.is (.pointer (some ⟨bb, off + k * 4 + 3, none⟩))), (.is (.string m[k].prompt)), (.is (.pointer (some ⟨w1.heap.size, 2, none⟩))), (.is (.string (s ++ x))), (.is (.bool true)), (.is (.bool true))] (by kernel_rfl) (by kernel_rfl) (by kernel_rfl) ⟨?_, ?_, ?_, ?_, ?_, ?_, ?_, ?_, ?_, ?_, ?_, ?_, ?_, ?_, ?_, ?_, ?_, trivial⟩ ?_
            · intro y W next hl hJ hd hn
              refine Or.inl ⟨wanted_free rfl, fun ev ec ef hev => ?_⟩
              have e2 : ev (.tmp 2) = .slice (some ⟨bb, off, none⟩) m.length cap2 := hev 2 _ ((hl.2 2 (by kernel_rfl)).trans (by kernel_rfl))
              clear hd hl hev
              replace hJ := Lib.hid hJ
              go_simp
              exact hn _ _ (Below.refl _ _) rfl
            · intro y W next hl hJ hd hn
              refine Or.inl ⟨wanted_free rfl, fun ev ec ef hev => ?_⟩
              have e10 : ev (.tmp 10) = .int .i64 (k : Int) := hev 10 _ ((hl.2 10 (by kernel_rfl)).trans (by kernel_rfl))
              clear hd hl hev
              replace hJ := Lib.hid hJ
              go_simp
              exact hn _ _ (Below.refl _ _) rfl
            · intro y W next hl hJ hd hn
              refine Or.inl ⟨wanted_free rfl, fun ev ec ef hev => ?_⟩
              have e32 : ev (.tmp 32) =  (.slice (some ⟨bb, off, none⟩) m.length cap2) := hev 32 _ ((hl.1 0 32 (by kernel_rfl) (by kernel_rfl)).trans (congrArg some (show y 0 =  (.slice (some ⟨bb, off, none⟩) m.length cap2) from hd 0 (by kernel_rfl))))
              have e33 : ev (.tmp 33) =  (.int .i64 (k : Int)) := hev 33 _ ((hl.1 1 33 (by kernel_rfl) (by kernel_rfl)).trans (congrArg some (show y 1 =  (.int .i64 (k : Int)) from hd 1 (by kernel_rfl))))
              clear hd hl hev
              replace hJ := Lib.hid hJ
              go_simp
              exact hn _ _ (Below.refl _ _) rfl
            · intro y W next hl hJ hd hn
              refine Or.inl ⟨wanted_free rfl, fun ev ec ef hev => ?_⟩
              have e34 : ev (.tmp 34) =  (.pointer (some ⟨bb, off + k * 4, none⟩)) := hev 34 _ ((hl.1 2 34 (by kernel_rfl) (by kernel_rfl)).trans (congrArg some (show y 2 =  (.pointer (some ⟨bb, off + k * 4, none⟩)) from hd 2 (by kernel_rfl))))
              clear hd hl hev
              replace hJ := Lib.hid hJ
              go_simp
              exact hn _ _ (Below.refl _ _) rfl
            · intro y W next hl hJ hd hn
              refine Or.inl ⟨wanted_free rfl, fun ev ec ef hev => ?_⟩
              have e35 : ev (.tmp 35) =  (.pointer (some ⟨bb, off + k * 4 + 1, none⟩)) := hev 35 _ ((hl.1 3 35 (by kernel_rfl) (by kernel_rfl)).trans (congrArg some (show y 3 =  (.pointer (some ⟨bb, off + k * 4 + 1, none⟩)) from hd 3 (by kernel_rfl))))
              clear hd hl hev
              obtain ⟨b', off', e', hb', p0, p1, p2, p3⟩ := (hsecs.out.below hJ).four k hlt
              cases e'
              replace hJ := Lib.hid hJ
              go_simp
              exact hn _ _ (Below.refl _ _) rfl
            · intro y W next hl hJ hd hn
              refine Or.inl ⟨wanted_free rfl, fun ev ec ef hev => ?_⟩
              have e1 : ev (.tmp 1) = .int .i64 n := hev 1 _ ((hl.2 1 (by kernel_rfl)).trans (by kernel_rfl))
              clear hd hl hev
              replace hJ := Lib.hid hJ
              go_simp
              exact hn _ _ (Below.refl _ _) rfl
            · intro y W next hl hJ hd hn
              refine Or.inl ⟨wanted_free rfl, fun ev ec ef hev => ?_⟩
              have e36 : ev (.tmp 36) =  (.int .i64 m[k].seat) := hev 36 _ ((hl.1 4 36 (by kernel_rfl) (by kernel_rfl)).trans (congrArg some (show y 4 =  (.int .i64 m[k].seat) from hd 4 (by kernel_rfl))))
              have e37 : ev (.tmp 37) =  (.int .i64 n) := hev 37 _ ((hl.1 5 37 (by kernel_rfl) (by kernel_rfl)).trans (congrArg some (show y 5 =  (.int .i64 n) from hd 5 (by kernel_rfl))))
              clear hd hl hev
              replace hJ := Lib.hid hJ
              go_simp
              exact hn _ _ (Below.refl _ _) rfl
            · intro y W next hl hJ hd hn
              refine Or.inl ⟨wanted_free rfl, fun ev ec ef hev => ?_⟩
              have e38 : ev (.tmp 38) =  (.bool true) := hev 38 _ ((hl.1 6 38 (by kernel_rfl) (by kernel_rfl)).trans (congrArg some (show y 6 =  (.bool true) from hd 6 (by kernel_rfl))))
              clear hd hl hev
              replace hJ := Lib.hid hJ
              go_simp
              exact hn _ _ (Below.refl _ _) rfl
            · intro y W next hl hJ hd hn
              refine Or.inl ⟨wanted_of (j := 7) (d := 39) rfl rfl rfl ((hl.1 7 39 (by kernel_rfl) (by kernel_rfl)).trans (congrArg some (show y 7 = .bool true from hd 7 (by kernel_rfl)))), fun ev ec ef hev => ?_⟩
              have e2 : ev (.tmp 2) = .slice (some ⟨bb, off, none⟩) m.length cap2 := hev 2 _ ((hl.2 2 (by kernel_rfl)).trans (by kernel_rfl))
              clear hd hl hev
              replace hJ := Lib.hid hJ
              go_simp
              exact hn _ _ (Below.refl _ _) rfl
            · intro y W next hl hJ hd hn
              refine Or.inl ⟨wanted_of (j := 7) (d := 39) rfl rfl rfl ((hl.1 7 39 (by kernel_rfl) (by kernel_rfl)).trans (congrArg some (show y 7 = .bool true from hd 7 (by kernel_rfl)))), fun ev ec ef hev => ?_⟩
              have e10 : ev (.tmp 10) = .int .i64 (k : Int) := hev 10 _ ((hl.2 10 (by kernel_rfl)).trans (by kernel_rfl))
              clear hd hl hev
              replace hJ := Lib.hid hJ
              go_simp
              exact hn _ _ (Below.refl _ _) rfl
            · intro y W next hl hJ hd hn
              refine Or.inl ⟨wanted_of (j := 7) (d := 39) rfl rfl rfl ((hl.1 7 39 (by kernel_rfl) (by kernel_rfl)).trans (congrArg some (show y 7 = .bool true from hd 7 (by kernel_rfl)))), fun ev ec ef hev => ?_⟩
              have e40 : ev (.tmp 40) =  (.slice (some ⟨bb, off, none⟩) m.length cap2) := hev 40 _ ((hl.1 8 40 (by kernel_rfl) (by kernel_rfl)).trans (congrArg some (show y 8 =  (.slice (some ⟨bb, off, none⟩) m.length cap2) from hd 8 (by kernel_rfl))))
              have e41 : ev (.tmp 41) =  (.int .i64 (k : Int)) := hev 41 _ ((hl.1 9 41 (by kernel_rfl) (by kernel_rfl)).trans (congrArg some (show y 9 =  (.int .i64 (k : Int)) from hd 9 (by kernel_rfl))))
              clear hd hl hev
              replace hJ := Lib.hid hJ
              go_simp
              exact hn _ _ (Below.refl _ _) rfl
            · intro y W next hl hJ hd hn
              refine Or.inl ⟨wanted_of (j := 7) (d := 39) rfl rfl rfl ((hl.1 7 39 (by kernel_rfl) (by kernel_rfl)).trans (congrArg some (show y 7 = .bool true from hd 7 (by kernel_rfl)))), fun ev ec ef hev => ?_⟩
              have e42 : ev (.tmp 42) =  (.pointer (some ⟨bb, off + k * 4, none⟩)) := hev 42 _ ((hl.1 10 42 (by kernel_rfl) (by kernel_rfl)).trans (congrArg some (show y 10 =  (.pointer (some ⟨bb, off + k * 4, none⟩)) from hd 10 (by kernel_rfl))))
              clear hd hl hev
              replace hJ := Lib.hid hJ
              go_simp
              exact hn _ _ (Below.refl _ _) rfl
            · intro y W next hl hJ hd hn
              refine Or.inl ⟨wanted_of (j := 7) (d := 39) rfl rfl rfl ((hl.1 7 39 (by kernel_rfl) (by kernel_rfl)).trans (congrArg some (show y 7 = .bool true from hd 7 (by kernel_rfl)))), fun ev ec ef hev => ?_⟩
              have e43 : ev (.tmp 43) =  (.pointer (some ⟨bb, off + k * 4 + 3, none⟩)) := hev 43 _ ((hl.1 11 43 (by kernel_rfl) (by kernel_rfl)).trans (congrArg some (show y 11 =  (.pointer (some ⟨bb, off + k * 4 + 3, none⟩)) from hd 11 (by kernel_rfl))))
              clear hd hl hev
              obtain ⟨b', off', e', hb', p0, p1, p2, p3⟩ := (hsecs.out.below hJ).four k hlt
              cases e'
              replace hJ := Lib.hid hJ
              go_simp
              exact hn _ _ (Below.refl _ _) rfl
            · intro y W next hl hJ hd hn
              refine Or.inl ⟨wanted_of (j := 7) (d := 39) rfl rfl rfl ((hl.1 7 39 (by kernel_rfl) (by kernel_rfl)).trans (congrArg some (show y 7 = .bool true from hd 7 (by kernel_rfl)))), fun ev ec ef hev => ?_⟩
              have e9 : ev (.tmp 9) = .pointer (some ⟨w1.heap.size, 0, none⟩) := hev 9 _ ((hl.2 9 (by kernel_rfl)).trans (by kernel_rfl))
              clear hd hl hev
              replace hJ := Lib.hid hJ
              go_simp
              exact hn _ _ (Below.refl _ _) rfl
            · intro y W next hl hJ hd hn
              refine Or.inl ⟨wanted_of (j := 7) (d := 39) rfl rfl rfl ((hl.1 7 39 (by kernel_rfl) (by kernel_rfl)).trans (congrArg some (show y 7 = .bool true from hd 7 (by kernel_rfl)))), fun ev ec ef hev => ?_⟩
              have e45 : ev (.tmp 45) =  (.pointer (some ⟨w1.heap.size, 2, none⟩)) := hev 45 _ ((hl.1 13 45 (by kernel_rfl) (by kernel_rfl)).trans (congrArg some (show y 13 =  (.pointer (some ⟨w1.heap.size, 2, none⟩)) from hd 13 (by kernel_rfl))))
              clear hd hl hev
              obtain ⟨z0, z1, z2, z3, z4, z5, -, -, -, -, -, -⟩ := (hO.out.below hJ hO.out.lt).six
              replace hJ := Lib.hid hJ
              go_simp
              exact hn _ _ (Below.refl _ _) rfl
            · intro y W next hl hJ hd hn
              refine Or.inl ⟨wanted_of (j := 7) (d := 39) rfl rfl rfl ((hl.1 7 39 (by kernel_rfl) (by kernel_rfl)).trans (congrArg some (show y 7 = .bool true from hd 7 (by kernel_rfl)))), fun ev ec ef hev => ?_⟩
              have e44 : ev (.tmp 44) =  (.string m[k].prompt) := hev 44 _ ((hl.1 12 44 (by kernel_rfl) (by kernel_rfl)).trans (congrArg some (show y 12 =  (.string m[k].prompt) from hd 12 (by kernel_rfl))))
              have e46 : ev (.tmp 46) =  (.string (s ++ x)) := hev 46 _ ((hl.1 14 46 (by kernel_rfl) (by kernel_rfl)).trans (congrArg some (show y 14 =  (.string (s ++ x)) from hd 14 (by kernel_rfl))))
              clear hd hl hev
              replace hJ := Lib.hid hJ
              go_simp
              refine (specEndsB_any _ _ hwf.out hsx.out _).mono ?_
              rintro e w' ⟨rfl, hb⟩
              exact ⟨_, rfl, hn _ _ hb (by rw [hen]; rfl)⟩
            · intro y W next hl hJ hd hn
              refine Or.inl ⟨wanted_free rfl, fun ev ec ef hev => ?_⟩
              have e39 : ev (.tmp 39) =  (.bool true) := hev 39 _ ((hl.1 7 39 (by kernel_rfl) (by kernel_rfl)).trans (congrArg some (show y 7 =  (.bool true) from hd 7 (by kernel_rfl))))
              have e47 : ev (.tmp 47) =  (.bool true) := hev 47 _ ((hl.1 15 47 (by kernel_rfl) (by kernel_rfl)).trans (congrArg some (show y 15 =  (.bool true) from hd 15 (by kernel_rfl))))
              clear hd hl hev
              replace hJ := Lib.hid hJ
              go_simp
              exact hn _ _ (Below.refl _ _) rfl
            · intro y W hb3 hall
              have hy : y 16 = .bool true := hall 16 (by decide)
              replace hb := Lib.hid (Below.then_ hb.out hb3 (Nat.le_refl _))
              replace hO := Lib.hid (hO.out.up hb3)
              replace hR := Lib.hid (hR.out.up hb3)
              replace ho := Lib.hid (ho.out.below hb3)
              clear hall hb3
              simp only [lay_cons, lay_nil]
              rw [hy]
              clear hy
              simp only [Act.put, List.setIfInBounds_toArray]
              simp only [List.set_cons_succ, List.set_cons_zero]
              clear hsecs hwf
              obtain ⟨z0, z1, z2, z3, z4, z5, zf0, zf1, zf2, zf3, zf4, zf5⟩ := hO.out.six
              have hlz := hO.out.lt
              rcases (show k = 0 ∨ k = 1 ∨ k = 2 ∨ k = 3 by omega) with rfl | rfl | rfl | rfl
              · go_wp2
                go_region
                go_wp2
                go_roundw
                case rel => exact ⟨0 + 1, by omega, by go_num, Lib.hid (by rw [hye.out]; exact hO.out.drew.set 3 _), Lib.hid (hR.out.drew.setOther (by omega) 3 _), Lib.hid (ho.out.drew.setO (Nat.le_refl _) 3 _), Lib.hid ((below_drew' hb.out).setCell (p := ⟨w1.heap.size, 3, none⟩) (show w.heap.size ≤ w1.heap.size by omega) _)⟩
                case measure => simp [intOf]; omega
              · go_wp2
                go_region
                go_wp2
                go_roundw
                case rel => exact ⟨1 + 1, by omega, by go_num, Lib.hid (by rw [hye.out]; exact hO.out.drew.set 3 _), Lib.hid (hR.out.drew.setOther (by omega) 3 _), Lib.hid (ho.out.drew.setO (Nat.le_refl _) 3 _), Lib.hid ((below_drew' hb.out).setCell (p := ⟨w1.heap.size, 3, none⟩) (show w.heap.size ≤ w1.heap.size by omega) _)⟩
                case measure => simp [intOf]; omega
              · go_wp2
                go_region
                go_wp2
                go_roundw
                case rel => exact ⟨2 + 1, by omega, by go_num, Lib.hid (by rw [hye.out]; exact hO.out.drew.set 3 _), Lib.hid (hR.out.drew.setOther (by omega) 3 _), Lib.hid (ho.out.drew.setO (Nat.le_refl _) 3 _), Lib.hid ((below_drew' hb.out).setCell (p := ⟨w1.heap.size, 3, none⟩) (show w.heap.size ≤ w1.heap.size by omega) _)⟩
                case measure => simp [intOf]; omega
              · go_wp2
                go_region
                go_wp2
                go_roundw
                case rel => exact ⟨3 + 1, by omega, by go_num, Lib.hid (by rw [hye.out]; exact hO.out.drew.set 3 _), Lib.hid (hR.out.drew.setOther (by omega) 3 _), Lib.hid (ho.out.drew.setO (Nat.le_refl _) 3 _), Lib.hid ((below_drew' hb.out).setCell (p := ⟨w1.heap.size, 3, none⟩) (show w.heap.size ≤ w1.heap.size by omega) _)⟩
                case measure => simp [intOf]; omega
      · have hlt' : ¬ (k : Int) < (m.length : Int) := by omega
        obtain rfl : k = m.length := by omega
        obtain ⟨z0, z1, z2, z3, z4, z5, zf0, zf1, zf2, zf3, zf4, zf5⟩ := hO.out.six
        obtain ⟨y0, y1, y2, y3, y4, y5, y6, y7, yf0, yf1, yf2, yf3, yf4, yf5, yf6, yf7⟩ := hR.out.eight
        have hly := hR.out.lt
        have hlz := hO.out.lt
        go_wp2
        refine bodyPost_ret (v := .agg #[.bool b, .bool o, .string (s ++ x), .int .i64 (acc (asksB n (s ++ x) m) q m.length), .string t, .slice A1 l.length cap1, .int .i64 0, .int .i64 0]) (by simp [results, Tryd.results94, go_sem, y0, y1, y2, y3, y4, y5, y6, y7]) rfl ?_
        rw [e0.out]
        exact SeatOutEnd.of (R := ⟨b, o, s ++ x, acc (asksB n (s ++ x) m) q m.length, t, l, 0, 0⟩) rfl ((ho.out.1.set8 (by omega) _ _ _ _ _ _ _ _).mono (by omega)) (below_set8 hb.out (Nat.le_succ _) _ _ _ _ _ _ _ _)
end Go.Proofs.YtbadpmghlclfkaaDoor
namespace Go.Proofs.YtbadpmghlclfkaaDoor
open Go.RowKit
theorem hearR_size {b o : Bool} {s : ByteArray} {q : Int} {t : ByteArray} {l : List Int} {n : Int} {m : List Sec} {x : ByteArray} (h : 8000 < x.size ∨ 400 < m.length) : hearR b o s q t l n m x = noSeat 0 2 := if_pos h
theorem hearR_form {b o : Bool} {s : ByteArray} {q : Int} {t : ByteArray} {l : List Int} {n : Int} {m : List Sec} {x : ByteArray} (h : ¬ (8000 < x.size ∨ 400 < m.length)) (h2 : seatB s q t l = false ∨ vaultB m = false ∨ isB n 0 2 = false) : hearR b o s q t l n m x = noSeat 0 1 := by
  rw [hearR, if_neg h, if_neg]
  rintro ⟨h3, h4, h5⟩
  rcases h2 with h2 | h2 | h2 <;> simp_all
theorem hearR_ok {b o : Bool} {s : ByteArray} {q : Int} {t : ByteArray} {l : List Int} {n : Int} {m : List Sec} {x : ByteArray} (h : ¬ (8000 < x.size ∨ 400 < m.length)) (h1 : seatB s q t l = true) (h2 : vaultB m = true) (h3 : isB n 0 2 = true) : hearR b o s q t l n m x = heardR b o s q t l n m x := by
  rw [hearR, if_neg h, if_pos ⟨h1, h2, h3⟩]
set_option maxRecDepth 100000 in
set_option maxHeartbeats 16000000 in
theorem implHear_any (b o : Bool) (s : ByteArray) (q : Int) (t : ByteArray) (v : Value) (l : List Int) (n : Int) (u : Value) (m : List Sec) (x : ByteArray) (w : World) (hs : s.size ≤ 1048576) (ht : t.size ≤ 1048576) (hx : x.size ≤ 1048576) (hg : Four w) (hv : Ints w v l) (hu : Secs w u m) :
    Calls Tryd.prog 73 #[.agg #[.bool b, .bool o, .string s, .int .i64 q, .string t, v], .int .i64 n, u, .string x] w (SeatOutEnd w.heap.size (hearR b o s q t l n m x) w) := by
  obtain ⟨A, cap, rfl⟩ := hv.form
  obtain ⟨A2, cap2, rfl⟩ := hu.form
  have hml : (m.length : Int) ≤ 9223372036854775807 := by have := hu.1; unfold maxLen at this; omega
  have hbb := boxes2 w [.bool b, .bool o, .string s, .int .i64 q, .string t, .slice A l.length cap] [.bool false, .bool false, .string ⟨#[]⟩, .int .i64 0, .string ⟨#[]⟩, .slice none 0 0, .int .i64 0, .int .i64 0] 56 58
  have hB := Lib.hid hbb.1
  have hR := Lib.hid hbb.2
  have hbW := Lib.hid (((Below.refl w.heap.size w).alloc (Nat.le_refl _) (.cells #[.bool b, .bool o, .string s, .int .i64 q, .string t, .slice A l.length cap] 56)).alloc (by simp) (.cells #[.bool false, .bool false, .string ⟨#[]⟩, .int .i64 0, .string ⟨#[]⟩, .slice none 0 0, .int .i64 0, .int .i64 0] 58))
  have hIn := Lib.hid ((hv.alloc (.cells #[.bool b, .bool o, .string s, .int .i64 q, .string t, .slice A l.length cap] 56)).alloc (.cells #[.bool false, .bool false, .string ⟨#[]⟩, .int .i64 0, .string ⟨#[]⟩, .slice none 0 0, .int .i64 0, .int .i64 0] 58))
  have hSec := Lib.hid ((hu.alloc (.cells #[.bool b, .bool o, .string s, .int .i64 q, .string t, .slice A l.length cap] 56)).alloc (.cells #[.bool false, .bool false, .string ⟨#[]⟩, .int .i64 0, .string ⟨#[]⟩, .slice none 0 0, .int .i64 0, .int .i64 0] 58))
  have hu' := Lib.hid hu
  replace hg := Lib.hid hg
  clear hv hu hbb
  by_cases h1 : 8000 < x.size
  · have h1' : (8000 : Int) < (x.size : Int) := by omega
    have e0 := Lib.hid (hearR_size (b := b) (o := o) (s := s) (q := q) (t := t) (l := l) (n := n) (m := m) (.inl h1))
    clear h1
    go_enter Tryd.func73, Tryd.ntmps73
    go_wp2
    refine bodyPost_ret (v := .agg #[.bool false, .bool false, .string ⟨#[]⟩, .int .i64 0, .string ⟨#[]⟩, .slice none 0 0, .int .i64 0, .int .i64 2]) (by simp [results, Tryd.results73, go_sem]) rfl ?_
    exact SeatOutEnd.none_ e0.out (((Below.refl _ _).alloc (Nat.le_refl _) _).alloc (by simp) _)
  have h1' : ¬ (8000 : Int) < (x.size : Int) := by omega
  by_cases h0 : 400 < m.length
  · have h0' : (400 : Int) < (m.length : Int) := by omega
    have e0 := Lib.hid (hearR_size (b := b) (o := o) (s := s) (q := q) (t := t) (l := l) (n := n) (x := x) (.inr h0))
    clear h0 h1
    go_enter Tryd.func73, Tryd.ntmps73
    go_wp2
    refine bodyPost_ret (v := .agg #[.bool false, .bool false, .string ⟨#[]⟩, .int .i64 0, .string ⟨#[]⟩, .slice none 0 0, .int .i64 0, .int .i64 2]) (by simp [results, Tryd.results73, go_sem]) rfl ?_
    exact SeatOutEnd.none_ e0.out (((Below.refl _ _).alloc (Nat.le_refl _) _).alloc (by simp) _)
  have h0' : ¬ (400 : Int) < (m.length : Int) := by omega
  have hsz := Lib.hid (show ¬ (8000 < x.size ∨ 400 < m.length) by omega)
  cases hsb : seatB s q t l with
  | false =>
    have e0 := Lib.hid (hearR_form (b := b) (o := o) (s := s) (q := q) (t := t) (l := l) (n := n) (m := m) (x := x) hsz.out (.inl hsb))
    go_enter Tryd.func73, Tryd.ntmps73
    go_wp2_with (go_at_call 70; refine (implSeatRight_any b o s q t _ l _ hs ht hIn.out).mono ?_; rintro e1 w1 ⟨rfl, hb1⟩; rw [hsb]; replace hbW := Lib.hid (Below.then_ hbW.out hb1 (Nat.le_refl _)); replace hIn := Lib.hid (hIn.out.below hb1); replace hSec := Lib.hid (hSec.out.below hb1); replace hB := Lib.hid (hB.out.up hb1); replace hR := Lib.hid (hR.out.up hb1); obtain ⟨x0, x1, x2, x3, x4, x5, xf0, xf1, xf2, xf3, xf4, xf5⟩ := hB.out.six; obtain ⟨y0, y1, y2, y3, y4, y5, y6, y7, yf0, yf1, yf2, yf3, yf4, yf5, yf6, yf7⟩ := hR.out.eight; have hlx := hB.out.lt; have hly := hR.out.lt; clear hb1)
    refine bodyPost_ret (v := .agg #[.bool false, .bool false, .string ⟨#[]⟩, .int .i64 0, .string ⟨#[]⟩, .slice none 0 0, .int .i64 0, .int .i64 1]) (by simp [results, Tryd.results73, go_sem, y0, y1, y2, y3, y4, y5, y6, y7]) rfl ?_
    exact SeatOutEnd.none_ e0.out (below_set8 hbW.out (Nat.le_succ _) _ _ _ _ _ _ _ _)
  | true =>
  cases hib : isB n 0 2 with
  | false =>
    have e0 := Lib.hid (hearR_form (b := b) (o := o) (s := s) (q := q) (t := t) (l := l) (n := n) (m := m) (x := x) hsz.out (.inr (.inr hib)))
    go_enter Tryd.func73, Tryd.ntmps73
    go_wp2_with (first | (go_at_call 70; refine (implSeatRight_any b o s q t _ l _ hs ht hIn.out).mono ?_; rintro e1 w1 ⟨rfl, hb1⟩; rw [hsb]; replace hbW := Lib.hid (Below.then_ hbW.out hb1 (Nat.le_refl _)); replace hIn := Lib.hid (hIn.out.below hb1); replace hSec := Lib.hid (hSec.out.below hb1); replace hB := Lib.hid (hB.out.up hb1); replace hR := Lib.hid (hR.out.up hb1); obtain ⟨x0, x1, x2, x3, x4, x5, xf0, xf1, xf2, xf3, xf4, xf5⟩ := hB.out.six; obtain ⟨y0, y1, y2, y3, y4, y5, y6, y7, yf0, yf1, yf2, yf3, yf4, yf5, yf6, yf7⟩ := hR.out.eight; have hlx := hB.out.lt; have hly := hR.out.lt; clear hb1) | (go_at_call 54; refine (seatPlace_any _ _).mono ?_; rintro e3 w3 ⟨rfl, rfl⟩; rw [hib]))
    refine bodyPost_ret (v := .agg #[.bool false, .bool false, .string ⟨#[]⟩, .int .i64 0, .string ⟨#[]⟩, .slice none 0 0, .int .i64 0, .int .i64 1]) (by simp [results, Tryd.results73, go_sem, y0, y1, y2, y3, y4, y5, y6, y7]) rfl ?_
    exact SeatOutEnd.none_ e0.out (below_set8 hbW.out (Nat.le_succ _) _ _ _ _ _ _ _ _)
  | true =>
  cases hvb : vaultB m with
  | false =>
    have e0 := Lib.hid (hearR_form (b := b) (o := o) (s := s) (q := q) (t := t) (l := l) (n := n) (m := m) (x := x) hsz.out (.inr (.inl hvb)))
    go_enter Tryd.func73, Tryd.ntmps73
    go_wp2_with (first | (go_at_call 70; refine (implSeatRight_any b o s q t _ l _ hs ht hIn.out).mono ?_; rintro e1 w1 ⟨rfl, hb1⟩; rw [hsb]; replace hbW := Lib.hid (Below.then_ hbW.out hb1 (Nat.le_refl _)); replace hIn := Lib.hid (hIn.out.below hb1); replace hSec := Lib.hid (hSec.out.below hb1); replace hB := Lib.hid (hB.out.up hb1); replace hR := Lib.hid (hR.out.up hb1); obtain ⟨x0, x1, x2, x3, x4, x5, xf0, xf1, xf2, xf3, xf4, xf5⟩ := hB.out.six; obtain ⟨y0, y1, y2, y3, y4, y5, y6, y7, yf0, yf1, yf2, yf3, yf4, yf5, yf6, yf7⟩ := hR.out.eight; have hlx := hB.out.lt; have hly := hR.out.lt; clear hb1) | (go_at_call 54; refine (seatPlace_any _ _).mono ?_; rintro e3 w3 ⟨rfl, rfl⟩; rw [hib]) | (go_at_call 71; refine (implVault_any _ m _ hSec.out).mono ?_; rintro e2 w2 ⟨rfl, hb2⟩; rw [hvb]; replace hbW := Lib.hid (Below.then_ hbW.out hb2 (Nat.le_refl _)); replace hIn := Lib.hid (hIn.out.below hb2); replace hSec := Lib.hid (hSec.out.below hb2); replace hB := Lib.hid (hB.out.up hb2); replace hR := Lib.hid (hR.out.up hb2); obtain ⟨x0, x1, x2, x3, x4, x5, xf0, xf1, xf2, xf3, xf4, xf5⟩ := hB.out.six; obtain ⟨y0, y1, y2, y3, y4, y5, y6, y7, yf0, yf1, yf2, yf3, yf4, yf5, yf6, yf7⟩ := hR.out.eight; have hlx := hB.out.lt; have hly := hR.out.lt; clear hb2))
    refine bodyPost_ret (v := .agg #[.bool false, .bool false, .string ⟨#[]⟩, .int .i64 0, .string ⟨#[]⟩, .slice none 0 0, .int .i64 0, .int .i64 1]) (by simp [results, Tryd.results73, go_sem, y0, y1, y2, y3, y4, y5, y6, y7]) rfl ?_
    exact SeatOutEnd.none_ e0.out (below_set8 hbW.out (Nat.le_succ _) _ _ _ _ _ _ _ _)
  | true =>
    have h4 := vaultB_len hvb
    have hp := seatB_parts hsb
    by_cases hf : 120 < s.size + x.size
    · have hf' : (120 : Int) < (s.size : Int) + (x.size : Int) := by omega
      have e0 := Lib.hid ((hearR_ok (b := b) (o := o) hsz.out hsb hvb hib).trans (heardR_full hf))
      clear hf hp h0 h1
      go_enter Tryd.func73, Tryd.ntmps73
      go_wp2_with (first | (go_at_call 70; refine (implSeatRight_any b o s q t _ l _ hs ht hIn.out).mono ?_; rintro e1 w1 ⟨rfl, hb1⟩; rw [hsb]; replace hbW := Lib.hid (Below.then_ hbW.out hb1 (Nat.le_refl _)); replace hIn := Lib.hid (hIn.out.below hb1); replace hSec := Lib.hid (hSec.out.below hb1); replace hB := Lib.hid (hB.out.up hb1); replace hR := Lib.hid (hR.out.up hb1); obtain ⟨x0, x1, x2, x3, x4, x5, xf0, xf1, xf2, xf3, xf4, xf5⟩ := hB.out.six; obtain ⟨y0, y1, y2, y3, y4, y5, y6, y7, yf0, yf1, yf2, yf3, yf4, yf5, yf6, yf7⟩ := hR.out.eight; have hlx := hB.out.lt; have hly := hR.out.lt; clear hb1) | (go_at_call 71; refine (implVault_any _ m _ hSec.out).mono ?_; rintro e2 w2 ⟨rfl, hb2⟩; rw [hvb]; replace hbW := Lib.hid (Below.then_ hbW.out hb2 (Nat.le_refl _)); replace hIn := Lib.hid (hIn.out.below hb2); replace hSec := Lib.hid (hSec.out.below hb2); replace hB := Lib.hid (hB.out.up hb2); replace hR := Lib.hid (hR.out.up hb2); obtain ⟨x0, x1, x2, x3, x4, x5, xf0, xf1, xf2, xf3, xf4, xf5⟩ := hB.out.six; obtain ⟨y0, y1, y2, y3, y4, y5, y6, y7, yf0, yf1, yf2, yf3, yf4, yf5, yf6, yf7⟩ := hR.out.eight; have hlx := hB.out.lt; have hly := hR.out.lt; clear hb2) | (go_at_call 54; refine (seatPlace_any _ _).mono ?_; rintro e3 w3 ⟨rfl, rfl⟩; rw [hib]))
      refine bodyPost_ret (v := .agg #[.bool false, .bool false, .string ⟨#[]⟩, .int .i64 0, .string ⟨#[]⟩, .slice none 0 0, .int .i64 0, .int .i64 9]) (by simp [results, Tryd.results73, go_sem, y0, y1, y2, y3, y4, y5, y6, y7]) rfl ?_
      exact SeatOutEnd.none_ e0.out (below_set8 hbW.out (Nat.le_succ _) _ _ _ _ _ _ _ _)
    · have hf' : ¬ (120 : Int) < (s.size : Int) + (x.size : Int) := by omega
      have e0 := Lib.hid ((hearR_ok (b := b) (o := o) hsz.out hsb hvb hib).trans (heardR_ok hf))
      have hsx := Lib.hid (show (s ++ x).size ≤ maxLen by rw [ByteArray.size_append]; unfold maxLen; omega)
      have hor : bits .or .i64 q (acc (asksB n (s ++ x) m) 0 m.length) = acc (asksB n (s ++ x) m) q m.length := (acc_or _ q hp.2.1 m.length h4).1
      clear hf hp
      go_enter Tryd.func73, Tryd.ntmps73
      go_wp2_with (first | (go_at_call 70; refine (implSeatRight_any b o s q t _ l _ hs ht hIn.out).mono ?_; rintro e1 w1 ⟨rfl, hb1⟩; rw [hsb]; replace hbW := Lib.hid (Below.then_ hbW.out hb1 (Nat.le_refl _)); replace hIn := Lib.hid (hIn.out.below hb1); replace hSec := Lib.hid (hSec.out.below hb1); replace hB := Lib.hid (hB.out.up hb1); replace hR := Lib.hid (hR.out.up hb1); obtain ⟨x0, x1, x2, x3, x4, x5, xf0, xf1, xf2, xf3, xf4, xf5⟩ := hB.out.six; obtain ⟨y0, y1, y2, y3, y4, y5, y6, y7, yf0, yf1, yf2, yf3, yf4, yf5, yf6, yf7⟩ := hR.out.eight; have hlx := hB.out.lt; have hly := hR.out.lt; clear hb1) | (go_at_call 71; refine (implVault_any _ m _ hSec.out).mono ?_; rintro e2 w2 ⟨rfl, hb2⟩; rw [hvb]; replace hbW := Lib.hid (Below.then_ hbW.out hb2 (Nat.le_refl _)); replace hIn := Lib.hid (hIn.out.below hb2); replace hSec := Lib.hid (hSec.out.below hb2); replace hB := Lib.hid (hB.out.up hb2); replace hR := Lib.hid (hR.out.up hb2); obtain ⟨x0, x1, x2, x3, x4, x5, xf0, xf1, xf2, xf3, xf4, xf5⟩ := hB.out.six; obtain ⟨y0, y1, y2, y3, y4, y5, y6, y7, yf0, yf1, yf2, yf3, yf4, yf5, yf6, yf7⟩ := hR.out.eight; have hlx := hB.out.lt; have hly := hR.out.lt; clear hb2) | (go_at_call 54; refine (seatPlace_any _ _).mono ?_; rintro e3 w3 ⟨rfl, rfl⟩; rw [hib]) | (go_at_call 75; refine (implSeatAnew_any b o s q t _ l _ hs ht hIn.out).mono ?_; rintro e4 w4 ⟨A1, cap1, rfl, ho4, hb4⟩; have z4 := Lib.hid (show w.heap.size + 1 < w4.heap.size from Nat.lt_of_lt_of_le hly hb4.size); replace ho4 := Lib.hid ((Own2.new (lo := w.heap.size + 1 + 1) ho4 hly).alloc (.cells #[.bool b, .bool o, .string s, .int .i64 q, .string t, .slice A1 l.length cap1] 56)); replace hbW := Lib.hid ((Below.then_ hbW.out hb4 (Nat.le_refl _)).alloc (by have := z4.out; omega) (.cells #[.bool b, .bool o, .string s, .int .i64 q, .string t, .slice A1 l.length cap1] 56)); replace hSec := Lib.hid ((hSec.out.below hb4).alloc (.cells #[.bool b, .bool o, .string s, .int .i64 q, .string t, .slice A1 l.length cap1] 56)); replace hB := Lib.hid ((hB.out.up hb4).alloc (.cells #[.bool b, .bool o, .string s, .int .i64 q, .string t, .slice A1 l.length cap1] 56)); replace hR := Lib.hid ((hR.out.up hb4).alloc (.cells #[.bool b, .bool o, .string s, .int .i64 q, .string t, .slice A1 l.length cap1] 56)); have hN := Lib.hid (show Blk (w4.alloc (.cells #[.bool b, .bool o, .string s, .int .i64 q, .string t, .slice A1 l.length cap1] 56)) w4.heap.size 56 [.bool b, .bool o, .string s, .int .i64 q, .string t, .slice A1 l.length cap1] from heap_alloc_new w4 _); obtain ⟨x0, x1, x2, x3, x4, x5, xf0, xf1, xf2, xf3, xf4, xf5⟩ := hB.out.six; obtain ⟨y0, y1, y2, y3, y4, y5, y6, y7, yf0, yf1, yf2, yf3, yf4, yf5, yf6, yf7⟩ := hR.out.eight; obtain ⟨k0, k1, k2, k3, k4, k5, kf0, kf1, kf2, kf3, kf4, kf5⟩ := hN.out.six; have hlx := hB.out.lt; have hly := hR.out.lt; have hlk := hN.out.lt; have hz4 := z4.out; clear hb4) | (go_at_call 99; refine (joined_any s x (by omega) (by omega) _).mono ?_; rintro e5 w5 ⟨rfl, hb5⟩; rw [strV_of, bytes_append]; replace ho4 := Lib.hid (ho4.out.below hb5); replace hbW := Lib.hid (Below.then_ hbW.out hb5 (Nat.le_refl _)); replace hSec := Lib.hid (hSec.out.below hb5); replace hB := Lib.hid (hB.out.up hb5); replace hR := Lib.hid (hR.out.up hb5); replace hN := Lib.hid (hN.out.up hb5); obtain ⟨x0, x1, x2, x3, x4, x5, xf0, xf1, xf2, xf3, xf4, xf5⟩ := hB.out.six; obtain ⟨y0, y1, y2, y3, y4, y5, y6, y7, yf0, yf1, yf2, yf3, yf4, yf5, yf6, yf7⟩ := hR.out.eight; obtain ⟨k0, k1, k2, k3, k4, k5, kf0, kf1, kf2, kf3, kf4, kf5⟩ := hN.out.six; have hlx := hB.out.lt; have hly := hR.out.lt; have hlk := hN.out.lt; clear hb5))
      have hz4 := z4.out
      have hN2 := Lib.hid (show Blk (w5.setCell ⟨w4.heap.size, 2, none⟩ (.string (s ++ x))) w4.heap.size 56 [.bool b, .bool o, .string (s ++ x), .int .i64 q, .string t, .slice A1 l.length cap1] from hN.out.set 2 (.string (s ++ x)))
      replace hR := Lib.hid (hR.out.setOther (show w.heap.size + 1 ≠ w4.heap.size by omega) 2 (.string (s ++ x)))
      replace ho4 := Lib.hid (ho4.out.setO (Nat.le_refl _) 2 (.string (s ++ x)))
      replace hbW := Lib.hid (hbW.out.setCell (p := ⟨w4.heap.size, 2, none⟩) (show w.heap.size ≤ w4.heap.size by omega) (.string (s ++ x)))
      replace hSec := Lib.hid (hu'.out.below hbW.out)
      have hg5 := Lib.hid (hg.out.below hbW.out)
      clear x0 x1 x2 x3 x4 x5 hlx hB y0 y1 y2 y3 y4 y5 y6 y7 k0 k1 k2 k3 k4 k5 hly hlk hN
      have hN := hN2
      clear hN2
      refine wp_region_known_store [(.is (.pointer (some ⟨w4.heap.size, 3, none⟩))), (.is (.int .i64 q)), (.is (.pointer (some ⟨w4.heap.size, 2, none⟩))), (.is (.string (s ++ x))), (.is (.int .i64 n)), (.is (.slice A2 m.length cap2)), (.is (.int .i64 (acc (asksB n (s ++ x) m) 0 m.length))), (.is (.int .i64 (acc (asksB n (s ++ x) m) q m.length))), (.is (.pointer (some ⟨w4.heap.size, 3, none⟩)))] (fun W => Blk W w4.heap.size 56 [.bool b, .bool o, .string (s ++ x), .int .i64 (acc (asksB n (s ++ x) m) q m.length), .string t, .slice A1 l.length cap1] ∧ Blk W (w.heap.size + 1) 58 [.bool false, .bool false, .string ⟨#[]⟩, .int .i64 0, .string ⟨#[]⟩, .slice none 0 0, .int .i64 0, .int .i64 0] ∧ Own2 W (w.heap.size + 1 + 1) w4.heap.size (.slice A1 l.length cap1) l ∧ Below w.heap.size w W) 9 (by kernel_rfl) (by kernel_rfl) (by kernel_rfl) (by kernel_rfl) rfl rfl ⟨?_, ?_, ?_, ?_, ?_, ?_, ?_, ?_, ?_, ?_⟩ ?_
      · intro y W next hl hJ hd hn
        refine Or.inl ⟨wanted_free rfl, fun ev ec ef hev => ?_⟩
        have e9 : ev (.tmp 9) = .pointer (some ⟨w4.heap.size, 0, none⟩) := hev 9 _ ((hl.2 9 (by kernel_rfl)).trans (by kernel_rfl))
        clear hd hl hev
        replace hJ := Lib.hid hJ
        go_simp
        exact hn _ _ (Below.refl _ _) rfl
      · intro y W next hl hJ hd hn
        refine Or.inl ⟨wanted_free rfl, fun ev ec ef hev => ?_⟩
        have e48 : ev (.tmp 48) =  (.pointer (some ⟨w4.heap.size, 3, none⟩)) := hev 48 _ ((hl.1 0 48 (by kernel_rfl) (by kernel_rfl)).trans (congrArg some (show y 0 =  (.pointer (some ⟨w4.heap.size, 3, none⟩)) from hd 0 (by kernel_rfl))))
        clear hd hl hev
        obtain ⟨u0, u1, u2, u3, u4, u5, -, -, -, uf3, -, -⟩ := (hN.out.below hJ hN.out.lt).six
        replace hJ := Lib.hid hJ
        go_simp
        exact hn _ _ (Below.refl _ _) rfl
      · intro y W next hl hJ hd hn
        refine Or.inl ⟨wanted_free rfl, fun ev ec ef hev => ?_⟩
        have e9 : ev (.tmp 9) = .pointer (some ⟨w4.heap.size, 0, none⟩) := hev 9 _ ((hl.2 9 (by kernel_rfl)).trans (by kernel_rfl))
        clear hd hl hev
        replace hJ := Lib.hid hJ
        go_simp
        exact hn _ _ (Below.refl _ _) rfl
      · intro y W next hl hJ hd hn
        refine Or.inl ⟨wanted_free rfl, fun ev ec ef hev => ?_⟩
        have e50 : ev (.tmp 50) =  (.pointer (some ⟨w4.heap.size, 2, none⟩)) := hev 50 _ ((hl.1 2 50 (by kernel_rfl) (by kernel_rfl)).trans (congrArg some (show y 2 =  (.pointer (some ⟨w4.heap.size, 2, none⟩)) from hd 2 (by kernel_rfl))))
        clear hd hl hev
        obtain ⟨u0, u1, u2, u3, u4, u5, -, -, -, uf3, -, -⟩ := (hN.out.below hJ hN.out.lt).six
        replace hJ := Lib.hid hJ
        go_simp
        exact hn _ _ (Below.refl _ _) rfl
      · intro y W next hl hJ hd hn
        refine Or.inl ⟨wanted_free rfl, fun ev ec ef hev => ?_⟩
        have e1 : ev (.tmp 1) = .int .i64 n := hev 1 _ ((hl.2 1 (by kernel_rfl)).trans (by kernel_rfl))
        clear hd hl hev
        replace hJ := Lib.hid hJ
        go_simp
        exact hn _ _ (Below.refl _ _) rfl
      · intro y W next hl hJ hd hn
        refine Or.inl ⟨wanted_free rfl, fun ev ec ef hev => ?_⟩
        have e2 : ev (.tmp 2) = .slice A2 m.length cap2 := hev 2 _ ((hl.2 2 (by kernel_rfl)).trans (by kernel_rfl))
        clear hd hl hev
        replace hJ := Lib.hid hJ
        go_simp
        exact hn _ _ (Below.refl _ _) rfl
      · intro y W next hl hJ hd hn
        refine Or.inl ⟨wanted_free rfl, fun ev ec ef hev => ?_⟩
        have e51 : ev (.tmp 51) =  (.string (s ++ x)) := hev 51 _ ((hl.1 3 51 (by kernel_rfl) (by kernel_rfl)).trans (congrArg some (show y 3 =  (.string (s ++ x)) from hd 3 (by kernel_rfl))))
        have e52 : ev (.tmp 52) =  (.int .i64 n) := hev 52 _ ((hl.1 4 52 (by kernel_rfl) (by kernel_rfl)).trans (congrArg some (show y 4 =  (.int .i64 n) from hd 4 (by kernel_rfl))))
        have e53 : ev (.tmp 53) =  (.slice A2 m.length cap2) := hev 53 _ ((hl.1 5 53 (by kernel_rfl) (by kernel_rfl)).trans (congrArg some (show y 5 =  (.slice A2 m.length cap2) from hd 5 (by kernel_rfl))))
        clear hd hl hev
        replace hJ := Lib.hid hJ
        go_simp
        refine (askedBy_any (s ++ x) n _ m _ hsx.out h4 (hSec.out.below hJ.out) (hg5.out.below hJ.out)).mono ?_
        rintro e w' ⟨rfl, hb⟩
        exact ⟨_, rfl, hn _ _ hb rfl⟩
      · intro y W next hl hJ hd hn
        refine Or.inl ⟨wanted_free rfl, fun ev ec ef hev => ?_⟩
        have e49 : ev (.tmp 49) =  (.int .i64 q) := hev 49 _ ((hl.1 1 49 (by kernel_rfl) (by kernel_rfl)).trans (congrArg some (show y 1 =  (.int .i64 q) from hd 1 (by kernel_rfl))))
        have e54 : ev (.tmp 54) =  (.int .i64 (acc (asksB n (s ++ x) m) 0 m.length)) := hev 54 _ ((hl.1 6 54 (by kernel_rfl) (by kernel_rfl)).trans (congrArg some (show y 6 =  (.int .i64 (acc (asksB n (s ++ x) m) 0 m.length)) from hd 6 (by kernel_rfl))))
        clear hd hl hev
        replace hJ := Lib.hid hJ
        go_simp
        exact hn _ _ (Below.refl _ _) rfl
      · intro y W next hl hJ hd hn
        refine Or.inl ⟨wanted_free rfl, fun ev ec ef hev => ?_⟩
        have e9 : ev (.tmp 9) = .pointer (some ⟨w4.heap.size, 0, none⟩) := hev 9 _ ((hl.2 9 (by kernel_rfl)).trans (by kernel_rfl))
        clear hd hl hev
        replace hJ := Lib.hid hJ
        go_simp
        exact hn _ _ (Below.refl _ _) rfl
      · intro y W hl hJ hd
        refine ⟨wanted_free rfl, fun ev ec ef hev => ?_⟩
        have e55 : ev (.tmp 55) = (.int .i64 (acc (asksB n (s ++ x) m) q m.length)) := hev 55 _ ((hl.1 7 55 (by kernel_rfl) (by kernel_rfl)).trans (congrArg some (show y 7 = (.int .i64 (acc (asksB n (s ++ x) m) q m.length)) from hd 7 (by kernel_rfl))))
        have e56 : ev (.tmp 56) = (.pointer (some ⟨w4.heap.size, 3, none⟩)) := hev 56 _ ((hl.1 8 56 (by kernel_rfl) (by kernel_rfl)).trans (congrArg some (show y 8 = (.pointer (some ⟨w4.heap.size, 3, none⟩)) from hd 8 (by kernel_rfl))))
        clear hd hl hev
        obtain ⟨u0, u1, u2, u3, u4, u5, -, -, -, uf3, -, -⟩ := (hN.out.below hJ hN.out.lt).six
        have g1 := Lib.hid ((hN.out.below hJ hN.out.lt).set 3 (.int .i64 (acc (asksB n (s ++ x) m) q m.length)))
        have g2 := Lib.hid ((hR.out.below hJ hR.out.lt).setOther (show w.heap.size + 1 ≠ w4.heap.size by omega) 3 (.int .i64 (acc (asksB n (s ++ x) m) q m.length)))
        have g3 := Lib.hid ((ho4.out.below hJ).setO (Nat.le_refl _) 3 (.int .i64 (acc (asksB n (s ++ x) m) q m.length)))
        have g4 := Lib.hid ((Below.then_ hbW.out hJ (Nat.le_refl _)).setCell (p := ⟨w4.heap.size, 3, none⟩) (show w.heap.size ≤ w4.heap.size by omega) (.int .i64 (acc (asksB n (s ++ x) m) q m.length)))
        go_simp
        exact ⟨g1.out, g2.out, g3.out, g4.out⟩
      · intro y W hA
        obtain ⟨hN, hR, ho4, hbW⟩ := hA
        replace hN := Lib.hid hN
        replace hR := Lib.hid hR
        replace ho4 := Lib.hid ho4
        replace hbW := Lib.hid hbW
        simp only [lay_cons, lay_nil]
        simp only [Act.put, List.setIfInBounds_toArray]
        simp only [List.set_cons_succ, List.set_cons_zero]
        obtain ⟨y0, y1, y2, y3, y4, y5, y6, y7, yf0, yf1, yf2, yf3, yf4, yf5, yf6, yf7⟩ := hR.out.eight
        obtain ⟨k0, k1, k2, k3, k4, k5, kf0, kf1, kf2, kf3, kf4, kf5⟩ := hN.out.six
        have hly := hR.out.lt
        have hlk := hN.out.lt
        go_wp2
        refine bodyPost_ret (v := .agg #[.bool b, .bool o, .string (s ++ x), .int .i64 (acc (asksB n (s ++ x) m) q m.length), .string t, .slice A1 l.length cap1, .int .i64 0, .int .i64 0]) (by simp [results, Tryd.results73, go_sem, y0, y1, y2, y3, y4, y5, y6, y7]) rfl ?_
        rw [e0.out]
        exact SeatOutEnd.of (R := ⟨b, o, s ++ x, acc (asksB n (s ++ x) m) q m.length, t, l, 0, 0⟩) rfl ((ho4.out.1.set8 (by omega) _ _ _ _ _ _ _ _).mono (by omega)) (below_set8 hbW.out (Nat.le_succ _) _ _ _ _ _ _ _ _)
end Go.Proofs.YtbadpmghlclfkaaDoor
