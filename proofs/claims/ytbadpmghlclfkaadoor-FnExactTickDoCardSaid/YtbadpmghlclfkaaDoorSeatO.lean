/- An argument that is a seat: read as it lies. -/
import Derived.Test.YtbadpmghlclfkaaDoorSeatA
import Derived.Deep.Slices
import Derived.ChangeSame
import Derived.ChangeArms
import Derived.OpenShut
namespace Go.Proofs.YtbadpmghlclfkaaDoor
open Go.RowKit Go.ChangeShapes Go.WideShapes

section
variable {H : Type} {enc : TypeId × Value → H} {W : World} {base : Nat} {spare : Nat → Bool} {held : Bool}
theorem array6 {α : Type} {cs : Array α} (h : cs.size = 6) : ∃ c0 c1 c2 c3 c4 c5, cs = #[c0, c1, c2, c3, c4, c5] := by
  obtain ⟨l⟩ := cs
  match l, h with
  | [c0, c1, c2, c3, c4, c5], _ => exact ⟨c0, c1, c2, c3, c4, c5, rfl⟩
set_option maxRecDepth 100000 in
theorem seat_open {v : Value} {d : DataW H} {p : List MemPlace} (hv : Value.okWide Tryd.prog W .any base 48 v) (h : DataW.Trod enc Tryd.prog W 0 spare held 48 v d p) :
    ∃ (b o : Bool) (s : ByteArray) (q : Int) (t : ByteArray) (A : Option Addr) (len cap : Nat), v = .agg #[.bool b, .bool o, .string s, .int .i64 q, .string t, .slice A len cap] ∧ s.size ≤ maxLen ∧ (-9223372036854775808 ≤ q ∧ q ≤ 9223372036854775807) ∧ t.size ≤ maxLen ∧ len ≤ maxLen ∧
      (len ≤ 1048576 → ∃ l : List Int, l.length = len ∧ Ints W (.slice A len cap) l) := by
  have e1 : Tryd.prog.cellsOf 9 = 1 := by kernel_rfl
  have e2 : Tryd.prog.cellsOf 2 = 1 := by kernel_rfl
  have e3 : Tryd.prog.cellsOf 4 = 1 := by kernel_rfl
  have e4 : Tryd.prog.cellsOf 46 = 2 := by kernel_rfl
  have e5 : Tryd.prog.cellsOf 44 = 1 := by kernel_rfl
  have e6 : Tryd.prog.cellsOf 48 = 6 := by kernel_rfl
  obtain ⟨cs, rfl, hsz⟩ := okWide_struct Tryd.underlying48 hv
  obtain ⟨c0, c1, c2, c3, c4, c5, rfl⟩ := array6 (hsz.trans e6)
  obtain ⟨fuel, hf⟩ := h
  obtain ⟨xs, n, _, _, _, hlen, hf⟩ := DataW.trod_struct Tryd.underlying48 hf
  obtain ⟨y0, y1, y2, y3, y4, rfl⟩ : ∃ y0 y1 y2 y3 y4, xs = [y0, y1, y2, y3, y4] := by
    match xs, hlen with
    | [y0, y1, y2, y3, y4], _ => exact ⟨_, _, _, _, _, rfl⟩
  have h0 : DataW.trod enc Tryd.prog W 0 spare held n 4 (([c0, c1, c2, c3, c4, c5].drop 0).take (Tryd.prog.cellsOf 4)) = some y0 := hf 0 _ rfl
  have h1 : DataW.trod enc Tryd.prog W 0 spare held n 4 (([c0, c1, c2, c3, c4, c5].drop 1).take (Tryd.prog.cellsOf 4)) = some y1 := hf 1 _ rfl
  have h2 : DataW.trod enc Tryd.prog W 0 spare held n 9 (([c0, c1, c2, c3, c4, c5].drop 2).take (Tryd.prog.cellsOf 9)) = some y2 := hf 2 _ rfl
  have h3 : DataW.trod enc Tryd.prog W 0 spare held n 2 (([c0, c1, c2, c3, c4, c5].drop 3).take (Tryd.prog.cellsOf 2)) = some y3 := hf 3 _ rfl
  have h4 : DataW.trod enc Tryd.prog W 0 spare held n 46 (([c0, c1, c2, c3, c4, c5].drop 4).take (Tryd.prog.cellsOf 46)) = some y4 := hf 4 _ rfl
  rw [e3] at h0 h1
  rw [e1] at h2
  rw [e2] at h3
  rw [e4] at h4
  simp only [List.drop_succ_cons, List.drop_zero, List.take_succ_cons, List.take_zero] at h0 h1 h2 h3 h4
  obtain ⟨b, i0, _⟩ := DataW.trod_bool Tryd.underlying4 h0
  obtain ⟨o, i1, _⟩ := DataW.trod_bool Tryd.underlying4 h1
  obtain ⟨s, i2, _, z2⟩ := DataW.trod_string Tryd.underlying9 h2
  obtain ⟨q, i3, _, z3⟩ := DataW.trod_int Tryd.underlying2 h3
  obtain ⟨us, k, _, _, _, ulen, uf⟩ := DataW.trod_struct Tryd.underlying46 h4
  obtain ⟨u0, u1, rfl⟩ : ∃ u0 u1, us = [u0, u1] := by
    match us, ulen with
    | [u0, u1], _ => exact ⟨_, _, rfl⟩
  have g0 : DataW.trod enc Tryd.prog W 0 spare held k 9 (([c4, c5].drop 0).take (Tryd.prog.cellsOf 9)) = some u0 := uf 0 _ rfl
  have g1 : DataW.trod enc Tryd.prog W 0 spare held k 44 (([c4, c5].drop 1).take (Tryd.prog.cellsOf 44)) = some u1 := uf 1 _ rfl
  rw [e1] at g0
  rw [e5] at g1
  simp only [List.drop_succ_cons, List.drop_zero, List.take_succ_cons, List.take_zero] at g0 g1
  obtain ⟨t, i4, _, z4⟩ := DataW.trod_string Tryd.underlying9 g0
  simp only [List.cons.injEq, and_true] at i0 i1 i2 i3 i4
  subst i0 i1 i2 i3 i4
  obtain ⟨A, len, cap, rfl, hm, hI⟩ : ∃ A len cap, c5 = .slice A len cap ∧ len ≤ maxLen ∧ (len ≤ 1048576 → ∃ l, l.length = len ∧ Ints W (.slice A len cap) l) := by
    rcases open_ints Tryd.underlying44 Tryd.underlying2 (by kernel_rfl) g1 with ⟨hcs, _⟩ | ⟨x, l, c, zs, hcs, _, hl, hm, hz, _, hcell, hwz⟩
    · simp at hcs
      exact ⟨none, 0, 0, hcs, Nat.zero_le _, fun _ => ⟨[], rfl, (OwnInts.nil W 0).ints⟩⟩
    · simp at hcs
      have hzl : l ≤ zs.length := by rw [hz]; split <;> omega
      refine ⟨some x, l, c, hcs, Nat.le_trans hl hm, fun h => ⟨zs.take l, ?_, ints_of_row hzl hl hcell h⟩⟩
      rw [List.length_take]; omega
  exact ⟨b, o, s, q, t, A, len, cap, rfl, z2, wf_i64 z3, z4, hm, hI⟩
end
end Go.Proofs.YtbadpmghlclfkaaDoor
