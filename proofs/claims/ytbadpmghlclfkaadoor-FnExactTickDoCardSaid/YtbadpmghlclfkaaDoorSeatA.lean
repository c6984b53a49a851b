/- Who sits there: which are right; how large; copied, compared, marked and looked at again. -/
import Derived.Test.YtbadpmghlclfkaaDoorCells
import Derived.Test.YtbadpmghlclfkaaDoorOwn2
namespace Go.Proofs.YtbadpmghlclfkaaDoor
open Go.RowKit
theorem Blk.six {w : World} {g : Nat} {t : TypeId} {x0 x1 x2 x3 x4 x5 : Value} (h : Blk w g t [x0, x1, x2, x3, x4, x5]) : w.cell? ⟨g, 0, none⟩ = some x0 ∧ w.cell? ⟨g, 1, none⟩ = some x1 ∧ w.cell? ⟨g, 2, none⟩ = some x2 ∧ w.cell? ⟨g, 3, none⟩ = some x3 ∧ w.cell? ⟨g, 4, none⟩ = some x4 ∧ w.cell? ⟨g, 5, none⟩ = some x5 ∧ w.frozen? ⟨g, 0, none⟩ = false ∧ w.frozen? ⟨g, 1, none⟩ = false ∧ w.frozen? ⟨g, 2, none⟩ = false ∧ w.frozen? ⟨g, 3, none⟩ = false ∧ w.frozen? ⟨g, 4, none⟩ = false ∧ w.frozen? ⟨g, 5, none⟩ = false :=
  ⟨h.cell 0 (by simp), h.cell 1 (by simp), h.cell 2 (by simp), h.cell 3 (by simp), h.cell 4 (by simp), h.cell 5 (by simp), h.free 0, h.free 1, h.free 2, h.free 3, h.free 4, h.free 5⟩
theorem Blk.eight {w : World} {g : Nat} {t : TypeId} {x0 x1 x2 x3 x4 x5 x6 x7 : Value} (h : Blk w g t [x0, x1, x2, x3, x4, x5, x6, x7]) : w.cell? ⟨g, 0, none⟩ = some x0 ∧ w.cell? ⟨g, 1, none⟩ = some x1 ∧ w.cell? ⟨g, 2, none⟩ = some x2 ∧ w.cell? ⟨g, 3, none⟩ = some x3 ∧ w.cell? ⟨g, 4, none⟩ = some x4 ∧ w.cell? ⟨g, 5, none⟩ = some x5 ∧ w.cell? ⟨g, 6, none⟩ = some x6 ∧ w.cell? ⟨g, 7, none⟩ = some x7 ∧ w.frozen? ⟨g, 0, none⟩ = false ∧ w.frozen? ⟨g, 1, none⟩ = false ∧ w.frozen? ⟨g, 2, none⟩ = false ∧ w.frozen? ⟨g, 3, none⟩ = false ∧ w.frozen? ⟨g, 4, none⟩ = false ∧ w.frozen? ⟨g, 5, none⟩ = false ∧ w.frozen? ⟨g, 6, none⟩ = false ∧ w.frozen? ⟨g, 7, none⟩ = false :=
  ⟨h.cell 0 (by simp), h.cell 1 (by simp), h.cell 2 (by simp), h.cell 3 (by simp), h.cell 4 (by simp), h.cell 5 (by simp), h.cell 6 (by simp), h.cell 7 (by simp), h.free 0, h.free 1, h.free 2, h.free 3, h.free 4, h.free 5, h.free 6, h.free 7⟩
/-- A right seat. -/
def seatB (s : ByteArray) (q : Int) (t : ByteArray) (l : List Int) : Bool := decide (s.size ≤ 120) && markB q && labB t l
theorem seatB_long {s t : ByteArray} {q : Int} {l : List Int} (h : ¬ s.size ≤ 120) : seatB s q t l = false := by simp [seatB, h]
theorem seatB_bad {s t : ByteArray} {q : Int} {l : List Int} (h : markB q = false) : seatB s q t l = false := by simp [seatB, h]
theorem seatB_lab {s t : ByteArray} {q : Int} {l : List Int} (h1 : s.size ≤ 120) (h2 : markB q = true) : seatB s q t l = labB t l := by simp [seatB, h1, h2]
theorem seatB_parts {s t : ByteArray} {q : Int} {l : List Int} (h : seatB s q t l = true) : s.size ≤ 120 ∧ (0 ≤ q ∧ q ≤ 15) ∧ labB t l = true := by
  unfold seatB at h
  rw [Bool.and_eq_true, Bool.and_eq_true] at h
  exact ⟨of_decide_eq_true h.1.1, of_decide_eq_true h.1.2, h.2⟩
set_option maxHeartbeats 1000000 in
theorem specSeatRight_any (b o : Bool) (s : ByteArray) (q : Int) (t : ByteArray) (v : Value) (l : List Int) (w : World) (hs : s.size ≤ 1048576) (ht : t.size ≤ 1048576) (hv : Ints w v l) :
    Calls Tryd.prog 65 #[.agg #[.bool b, .bool o, .string s, .int .i64 q, .string t, v]] w (LookEnd (seatB s q t l) w) := by
  obtain ⟨A, cap, rfl⟩ := hv.form
  have hbel := Lib.hid ((Below.refl w.heap.size w).alloc (Nat.le_refl _) (.cells #[.bool b, .bool o, .string s, .int .i64 q, .string t, .slice A l.length cap] 56))
  have hv' := Lib.hid (hv.alloc (.cells #[.bool b, .bool o, .string s, .int .i64 q, .string t, .slice A l.length cap] 56))
  clear hv
  by_cases h1 : s.size ≤ 120
  · have h1' : (s.size : Int) ≤ 120 := by omega
    by_cases h2 : markB q = true
    · have e := Lib.hid (seatB_lab (t := t) (l := l) h1 h2)
      go_enter Tryd.func65, Tryd.ntmps65
      go_wp2_with (first | (go_at_call 57; refine (is_any _ _ _ _).mono ?_; rintro e w' ⟨rfl, rfl⟩; rw [markB_is]) | (go_at_call 90; refine (specLabRight_any t _ l _ ht hv'.out).mono ?_; rintro e w1 ⟨rfl, hb⟩; replace hb := Lib.hid hb))
      go_ret
      exact LookEnd.of e.out.symm (Below.then_ hbel.out hb.out (Nat.le_refl _))
    · have h2' : markB q = false := by simpa using h2
      have e := Lib.hid (seatB_bad (s := s) (t := t) (l := l) h2')
      clear h2
      go_enter Tryd.func65, Tryd.ntmps65
      go_wp2_with ((go_at_call 57; refine (is_any _ _ _ _).mono ?_; rintro e w' ⟨rfl, rfl⟩; rw [markB_is]))
      go_ret
      exact LookEnd.of e.out.symm hbel.out
  · have h1' : ¬ (s.size : Int) ≤ 120 := by omega
    have e := Lib.hid (seatB_long (q := q) (t := t) (l := l) h1)
    clear h1
    go_enter Tryd.func65, Tryd.ntmps65
    go_wp2
    go_ret
    exact LookEnd.of e.out.symm hbel.out
set_option maxHeartbeats 1000000 in
theorem implSeatRight_any (b o : Bool) (s : ByteArray) (q : Int) (t : ByteArray) (v : Value) (l : List Int) (w : World) (hs : s.size ≤ 1048576) (ht : t.size ≤ 1048576) (hv : Ints w v l) :
    Calls Tryd.prog 70 #[.agg #[.bool b, .bool o, .string s, .int .i64 q, .string t, v]] w (LookEnd (seatB s q t l) w) := by
  obtain ⟨A, cap, rfl⟩ := hv.form
  have hbel := Lib.hid ((Below.refl w.heap.size w).alloc (Nat.le_refl _) (.cells #[.bool b, .bool o, .string s, .int .i64 q, .string t, .slice A l.length cap] 56))
  have hv' := Lib.hid (hv.alloc (.cells #[.bool b, .bool o, .string s, .int .i64 q, .string t, .slice A l.length cap] 56))
  clear hv
  by_cases h1 : s.size ≤ 120
  · have h1' : (s.size : Int) ≤ 120 := by omega
    by_cases h2 : markB q = true
    · have e := Lib.hid (seatB_lab (t := t) (l := l) h1 h2)
      go_enter Tryd.func70, Tryd.ntmps70
      go_wp2_with (first | (go_at_call 96; refine (markRight_any _ _).mono ?_; rintro e w' ⟨rfl, rfl⟩) | (go_at_call 97; refine (implLabRight_any t _ l _ ht hv'.out).mono ?_; rintro e w1 ⟨rfl, hb⟩; replace hb := Lib.hid hb))
      go_ret
      exact LookEnd.of e.out.symm (Below.then_ hbel.out hb.out (Nat.le_refl _))
    · have h2' : markB q = false := by simpa using h2
      have e := Lib.hid (seatB_bad (s := s) (t := t) (l := l) h2')
      clear h2
      go_enter Tryd.func70, Tryd.ntmps70
      go_wp2_with ((go_at_call 96; refine (markRight_any _ _).mono ?_; rintro e w' ⟨rfl, rfl⟩))
      go_ret
      exact LookEnd.of e.out.symm hbel.out
  · have h1' : ¬ (s.size : Int) ≤ 120 := by omega
    have e := Lib.hid (seatB_long (q := q) (t := t) (l := l) h1)
    clear h1
    go_enter Tryd.func70, Tryd.ntmps70
    go_wp2
    go_ret
    exact LookEnd.of e.out.symm hbel.out
set_option maxHeartbeats 1000000 in
theorem szSeat_in (b o : Bool) (s : ByteArray) (q : Int) (t : ByteArray) (A : Option Addr) (len cap : Nat) (left : Int) (w : World) (h1 : (s.size : Int) + (t.size + len) ≤ left) (h3 : left ≤ 1048576) :
    Calls Tryd.prog 25 #[.agg #[.bool b, .bool o, .string s, .int .i64 q, .string t, .slice A len cap], .int .i64 left] w (SzEnd (left - s.size - t.size - len) w) := by
  have hb := Lib.hid ((Below.refl w.heap.size w).alloc (Nat.le_refl _) (.cells #[.bool b, .bool o, .string s, .int .i64 q, .string t, .slice A len cap] 48))
  have e1 : ¬ left - (s.size : Int) - t.size - len < 0 := by omega
  go_enter Tryd.func25, Tryd.ntmps25
  go_wp2_with (go_at_call 62; refine (szLab_in _ _ _ _ _ _ (by omega) (by omega)).mono ?_; rintro e w1 ⟨rfl, hb1⟩; replace hb1 := Lib.hid hb1)
  go_ret
  exact ⟨rfl, Below.then_ hb.out hb1.out (Nat.le_refl _)⟩
set_option maxHeartbeats 1000000 in
theorem szSeat_out (b o : Bool) (s : ByteArray) (q : Int) (t : ByteArray) (A : Option Addr) (len cap : Nat) (left : Int) (w : World) (h1 : ¬ (s.size : Int) + (t.size + len) ≤ left) (h0 : 0 ≤ left) (h3 : left ≤ 1048576) (hl : len ≤ maxLen) (ht : t.size ≤ maxLen) (hs : s.size ≤ maxLen) :
    Calls Tryd.prog 25 #[.agg #[.bool b, .bool o, .string s, .int .i64 q, .string t, .slice A len cap], .int .i64 left] w (SzEnd (-1) w) := by
  have hb := Lib.hid ((Below.refl w.heap.size w).alloc (Nat.le_refl _) (.cells #[.bool b, .bool o, .string s, .int .i64 q, .string t, .slice A len cap] 48))
  have hl' := Lib.hid hl
  have ht' := Lib.hid ht
  have hs' : (s.size : Int) ≤ 9223372036854775807 := by unfold maxLen at hs; omega
  clear hl ht
  by_cases h : left - (s.size : Int) < 0
  · go_enter Tryd.func25, Tryd.ntmps25
    go_wp2
    go_ret
    exact ⟨rfl, hb.out⟩
  · go_enter Tryd.func25, Tryd.ntmps25
    go_wp2_with (go_at_call 62; refine (szLab_out _ _ _ _ _ _ (by omega) (by omega) (by omega) hl'.out ht'.out).mono ?_; rintro e w1 ⟨rfl, hb1⟩; replace hb1 := Lib.hid hb1)
    go_ret
    exact ⟨rfl, Below.then_ hb.out hb1.out (Nat.le_refl _)⟩
/-- A seat whose marks lie in memory of the call's own. -/
def SeatEnd (base : Nat) (b o : Bool) (s : ByteArray) (q : Int) (t : ByteArray) (l : List Int) (w : World) (e : Ending) (w' : World) : Prop := ∃ A cap, e = .returned (.agg #[.bool b, .bool o, .string s, .int .i64 q, .string t, .slice A l.length cap]) ∧ OwnInts w' base (.slice A l.length cap) l ∧ Below base w w'
theorem OwnInts.set6 {w : World} {base g : Nat} {v : Value} {l : List Int} (h : OwnInts w base v l) (hg : g < base) (x0 x1 x2 x3 x4 x5 : Value) :
    OwnInts ((((((w.setCell ⟨g, 0, none⟩ x0).setCell ⟨g, 1, none⟩ x1).setCell ⟨g, 2, none⟩ x2).setCell ⟨g, 3, none⟩ x3).setCell ⟨g, 4, none⟩ x4).setCell ⟨g, 5, none⟩ x5) base v l :=
  (((((h.setCell _ _ _ hg).setCell _ _ _ hg).setCell _ _ _ hg).setCell _ _ _ hg).setCell _ _ _ hg).setCell _ _ _ hg
theorem below_set6 {w w' : World} {b g : Nat} (h : Below b w w') (hg : b ≤ g) (x0 x1 x2 x3 x4 x5 : Value) :
    Below b w ((((((w'.setCell ⟨g, 0, none⟩ x0).setCell ⟨g, 1, none⟩ x1).setCell ⟨g, 2, none⟩ x2).setCell ⟨g, 3, none⟩ x3).setCell ⟨g, 4, none⟩ x4).setCell ⟨g, 5, none⟩ x5) :=
  (((((h.setCell (p := ⟨g, 0, none⟩) hg x0).setCell (p := ⟨g, 1, none⟩) hg x1).setCell (p := ⟨g, 2, none⟩) hg x2).setCell (p := ⟨g, 3, none⟩) hg x3).setCell (p := ⟨g, 4, none⟩) hg x4).setCell (p := ⟨g, 5, none⟩) hg x5
set_option maxHeartbeats 2000000 in
theorem toSeat_any (b o : Bool) (s : ByteArray) (q : Int) (t : ByteArray) (v : Value) (l : List Int) (w : World) (hv : Ints w v l) :
    Calls Tryd.prog 29 #[.agg #[.bool b, .bool o, .string s, .int .i64 q, .string t, v]] w (SeatEnd w.heap.size b o s q t l w) := by
  obtain ⟨A, cap, rfl⟩ := hv.form
  have hv' := Lib.hid hv
  clear hv
  go_enter Tryd.func29, Tryd.ntmps29
  go_wp2_with (go_at_call 68; refine (toLab_any _ _ l _ (((hv'.out.alloc _).alloc _).alloc _)).mono ?_; rintro e w1 ⟨A2, cap2, rfl, ho, hb⟩; obtain ⟨hc, hf⟩ := bcell hb; have hz := hb.size; simp only [World.size_alloc] at hz; replace ho := Lib.hid ho; replace hb := Lib.hid hb)
  refine bodyPost_ret (v := .agg #[.bool b, .bool o, .string s, .int .i64 q, .string t, .slice A2 l.length cap2]) (by simp [results, Tryd.results29, go_sem, hc]) rfl ⟨_, _, rfl, ?_, ?_⟩
  · exact ((((ho.out.setCell _ _ _ (by simp)).setCell _ _ _ (by simp)).set6 (by simp) _ _ _ _ _ _)).mono (by simp; omega)
  · exact below_set6 (((((((Below.refl _ _).alloc (Nat.le_refl _) _).alloc (by simp) _).alloc (by simp; omega) _).trans (hb.out.mono (by simp; omega))).setCell (by simp; omega) _).setCell (by simp; omega) _) (by simp) _ _ _ _ _ _
set_option maxHeartbeats 2000000 in
theorem eqSeat_same (b o : Bool) (s : ByteArray) (q : Int) (t : ByteArray) (v u : Value) (l : List Int) (w : World) (hv : Ints w v l) (hu : Ints w u l) :
    Calls Tryd.prog 34 #[.agg #[.bool b, .bool o, .string s, .int .i64 q, .string t, v], .agg #[.bool b, .bool o, .string s, .int .i64 q, .string t, u]] w (LookEnd true w) := by
  have hbb := Lib.hid (fun (o1 o2 : Obj) => ((Below.refl w.heap.size w).alloc (Nat.le_refl _) o1).alloc (by simp) o2)
  obtain ⟨A, cap, rfl⟩ := hv.form
  obtain ⟨A2, cap2, rfl⟩ := hu.form
  have hv' := Lib.hid hv
  have hu' := Lib.hid hu
  clear hv hu
  have e := Lib.hid (alike_same t l)
  go_enter Tryd.func34, Tryd.ntmps34
  go_wp2_with (go_at_call 76; refine (eqLab_any _ _ _ _ l l _ ((hv'.out.alloc _).alloc _) ((hu'.out.alloc _).alloc _)).mono ?_; rintro e1 w1 ⟨rfl, hb⟩; rw [e.out]; replace hb := Lib.hid hb)
  go_ret
  exact LookEnd.of rfl (Below.then_ (hbb.out _ _) hb.out (Nat.le_refl _))
set_option maxHeartbeats 1000000 in
theorem markSeat_any (b o : Bool) (s : ByteArray) (q : Int) (t : ByteArray) (v : Value) (l : List Int) (k base : Nat) (w : World) (hk : k ≤ 40000000) (hv : OwnInts w base v l) :
    Calls Tryd.prog 36 #[.agg #[.bool b, .bool o, .string s, .int .i64 q, .string t, v], .int .i64 (k : Int)] w (MarkEnd base k l.length v w) := by
  obtain ⟨A, cap, rfl⟩ := hv.form
  have hv' := Lib.hid hv
  clear hv
  go_enter Tryd.func36, Tryd.ntmps36
  go_wp2_with (go_at_call 78; refine (markLab_any t _ l k base _ hk (hv'.out.alloc _)).mono ?_; rintro e w1 ⟨rfl, ho, hg⟩; replace ho := Lib.hid ho; replace hg := Lib.hid hg)
  go_ret
  exact ⟨rfl, ho.out, grown_alloc hg.out⟩
set_option maxHeartbeats 1000000 in
theorem heldSeat_any (b o : Bool) (s : ByteArray) (q : Int) (t : ByteArray) (v : Value) (n : Nat) (k : Nat) (w : World) (hk : k ≤ 40000000) (hv : Ints w v (seqI k n)) :
    Calls Tryd.prog 80 #[.agg #[.bool b, .bool o, .string s, .int .i64 q, .string t, v], .int .i64 (k : Int)] w (HeldEnd (k + n) w) := by
  obtain ⟨A, cap, rfl⟩ := hv.form
  have hl1 := hv.1
  rw [seqI_len] at hl1
  have hv' := Lib.hid hv
  clear hv
  have hbb := Lib.hid (fun (o1 : Obj) => ((Below.refl w.heap.size w).alloc (Nat.le_refl _) o1))
  go_enter Tryd.func80, Tryd.ntmps80
  go_wp2_with (go_at_call 104; refine (heldLab_any t _ n k _ hk (hv'.out.alloc _)).mono ?_; rintro e w1 ⟨rfl, hb⟩; replace hb := Lib.hid hb)
  go_ret
  exact ⟨rfl, Below.then_ (hbb.out _) hb.out (Nat.le_refl _)⟩
theorem markSeat_one (b o : Bool) (s : ByteArray) (q : Int) (t : ByteArray) (v : Value) (l : List Int) (base : Nat) (w : World) (hv : OwnInts w base v l) :
    Calls Tryd.prog 36 #[.agg #[.bool b, .bool o, .string s, .int .i64 q, .string t, v], .int .i64 1] w (MarkEnd base 1 l.length v w) := markSeat_any b o s q t v l 1 base w (by decide) hv
theorem heldSeat_one (b o : Bool) (s : ByteArray) (q : Int) (t : ByteArray) (v : Value) (n : Nat) (w : World) (hv : Ints w v (seqI 1 n)) :
    Calls Tryd.prog 80 #[.agg #[.bool b, .bool o, .string s, .int .i64 q, .string t, v], .int .i64 1] w (HeldEnd (1 + n) w) := heldSeat_any b o s q t v n 1 w (by decide) hv
/-- What a call hands back: a seat, of which secret it was denied, a code. -/
structure SeaR where
  b : Bool
  o : Bool
  s : ByteArray
  q : Int
  t : ByteArray
  l : List Int
  d : Int
  c : Int
def SeatOutEnd (base : Nat) (R : SeaR) (w : World) (e : Ending) (w' : World) : Prop := ∃ A cap, e = .returned (.agg #[.bool R.b, .bool R.o, .string R.s, .int .i64 R.q, .string R.t, .slice A R.l.length cap, .int .i64 R.d, .int .i64 R.c]) ∧ OwnInts w' base (.slice A R.l.length cap) R.l ∧ Below base w w'
def noSeat (d c : Int) : SeaR := ⟨false, false, ⟨#[]⟩, 0, ⟨#[]⟩, [], d, c⟩
theorem SeatOutEnd.none_ {base : Nat} {R : SeaR} {w w' : World} {d c : Int} (h : R = noSeat d c) (k : Below base w w') : SeatOutEnd base R w (.returned (.agg #[.bool false, .bool false, .string ⟨#[]⟩, .int .i64 0, .string ⟨#[]⟩, .slice none 0 0, .int .i64 d, .int .i64 c])) w' := by
  subst h; exact ⟨none, 0, rfl, OwnInts.nil _ _, k⟩
set_option maxHeartbeats 2000000 in
theorem eqSeatOut_same (b o : Bool) (s : ByteArray) (q : Int) (t : ByteArray) (v u : Value) (l : List Int) (d c : Int) (w : World) (hv : Ints w v l) (hu : Ints w u l) :
    Calls Tryd.prog 33 #[.agg #[.bool b, .bool o, .string s, .int .i64 q, .string t, v, .int .i64 d, .int .i64 c], .agg #[.bool b, .bool o, .string s, .int .i64 q, .string t, u, .int .i64 d, .int .i64 c]] w (LookEnd true w) := by
  have hbb := Lib.hid (fun (o1 o2 : Obj) => ((Below.refl w.heap.size w).alloc (Nat.le_refl _) o1).alloc (by simp) o2)
  obtain ⟨A, cap, rfl⟩ := hv.form
  obtain ⟨A2, cap2, rfl⟩ := hu.form
  have hv' := Lib.hid hv
  have hu' := Lib.hid hu
  clear hv hu
  go_enter Tryd.func33, Tryd.ntmps33
  go_wp2_with (go_at_call 34; refine (eqSeat_same _ _ _ _ _ _ _ l _ ((hv'.out.alloc _).alloc _) ((hu'.out.alloc _).alloc _)).mono ?_; rintro e1 w1 ⟨rfl, hb⟩; obtain ⟨hc, hf⟩ := bcell hb; replace hb := Lib.hid hb)
  go_ret
  exact LookEnd.of rfl (Below.then_ (hbb.out _ _) hb.out (Nat.le_refl _))
set_option maxHeartbeats 1000000 in
theorem markSeatOut_any (b o : Bool) (s : ByteArray) (q : Int) (t : ByteArray) (v : Value) (l : List Int) (d c : Int) (k base : Nat) (w : World) (hk : k ≤ 40000000) (hv : OwnInts w base v l) :
    Calls Tryd.prog 38 #[.agg #[.bool b, .bool o, .string s, .int .i64 q, .string t, v, .int .i64 d, .int .i64 c], .int .i64 (k : Int)] w (MarkEnd base k l.length v w) := by
  obtain ⟨A, cap, rfl⟩ := hv.form
  have hv' := Lib.hid hv
  clear hv
  go_enter Tryd.func38, Tryd.ntmps38
  go_wp2_with (go_at_call 36; refine (markSeat_any _ _ _ _ _ _ l k base _ hk (hv'.out.alloc _)).mono ?_; rintro e w1 ⟨rfl, ho, hg⟩; replace ho := Lib.hid ho; replace hg := Lib.hid hg)
  go_ret
  exact ⟨rfl, ho.out, grown_alloc hg.out⟩
set_option maxHeartbeats 1000000 in
theorem heldSeatOut_any (b o : Bool) (s : ByteArray) (q : Int) (t : ByteArray) (v : Value) (n : Nat) (d c : Int) (k : Nat) (w : World) (hk : k ≤ 40000000) (hv : Ints w v (seqI k n)) :
    Calls Tryd.prog 39 #[.agg #[.bool b, .bool o, .string s, .int .i64 q, .string t, v, .int .i64 d, .int .i64 c], .int .i64 (k : Int)] w (HeldEnd (k + n) w) := by
  obtain ⟨A, cap, rfl⟩ := hv.form
  have hl1 := hv.1
  rw [seqI_len] at hl1
  have hv' := Lib.hid hv
  clear hv
  have hbb := Lib.hid (fun (o1 : Obj) => ((Below.refl w.heap.size w).alloc (Nat.le_refl _) o1))
  go_enter Tryd.func39, Tryd.ntmps39
  go_wp2_with (go_at_call 80; refine (heldSeat_any _ _ _ _ _ _ n k _ hk (hv'.out.alloc _)).mono ?_; rintro e w1 ⟨rfl, hb⟩; replace hb := Lib.hid hb)
  go_ret
  exact ⟨rfl, Below.then_ (hbb.out _) hb.out (Nat.le_refl _)⟩
theorem markSeatOut_one (b o : Bool) (s : ByteArray) (q : Int) (t : ByteArray) (v : Value) (l : List Int) (d c : Int) (base : Nat) (w : World) (hv : OwnInts w base v l) :
    Calls Tryd.prog 38 #[.agg #[.bool b, .bool o, .string s, .int .i64 q, .string t, v, .int .i64 d, .int .i64 c], .int .i64 1] w (MarkEnd base 1 l.length v w) := markSeatOut_any b o s q t v l d c 1 base w (by decide) hv
theorem heldSeatOut_one (b o : Bool) (s : ByteArray) (q : Int) (t : ByteArray) (v : Value) (n : Nat) (d c : Int) (w : World) (hv : Ints w v (seqI 1 n)) :
    Calls Tryd.prog 39 #[.agg #[.bool b, .bool o, .string s, .int .i64 q, .string t, v, .int .i64 d, .int .i64 c], .int .i64 1] w (HeldEnd (1 + n) w) := heldSeatOut_any b o s q t v n d c 1 w (by decide) hv
end Go.Proofs.YtbadpmghlclfkaaDoor
