/- An argument that is a slice of secrets: read as a list. -/
import Derived.Test.YtbadpmghlclfkaaDoorVaultT
import Derived.Deep.Slices
import Derived.ChangeSame
import Derived.ChangeArms
namespace Go.Proofs.YtbadpmghlclfkaaDoor
open Go.RowKit Go.ChangeShapes Go.WideShapes

section
variable {H : Type} {enc : TypeId × Value → H} {W : World} {base : Nat} {spare : Nat → Bool} {held : Bool}
set_option maxRecDepth 100000 in
theorem sec_open {fuel : Nat} {a : Addr} {cs : List Value} {x : DataW H × List MemPlace} (hc : W.cells? base a 4 = some cs) (h : DataW.trod enc Tryd.prog W base spare held fuel 95 cs = some x) :
    ∃ y : Sec, SecWf y ∧ ∀ m, m < 4 → W.cell? (a.add m) = (secV y)[m]? := by
  obtain ⟨_, hcl, hat⟩ := World.cells?_some hc
  obtain ⟨xs, n, _, _, _, hlen, hf⟩ := DataW.trod_struct Tryd.underlying95 h
  have e1 : Tryd.prog.cellsOf 9 = 1 := by kernel_rfl
  have e2 : Tryd.prog.cellsOf 2 = 1 := by kernel_rfl
  obtain ⟨c0, c1, c2, c3, rfl⟩ : ∃ c0 c1 c2 c3, cs = [c0, c1, c2, c3] := by
    match cs, hcl with
    | [c0, c1, c2, c3], _ => exact ⟨_, _, _, _, rfl⟩
  obtain ⟨y0, y1, y2, y3, rfl⟩ : ∃ y0 y1 y2 y3, xs = [y0, y1, y2, y3] := by
    match xs, hlen with
    | [y0, y1, y2, y3], _ => exact ⟨_, _, _, _, rfl⟩
  have h0 : DataW.trod enc Tryd.prog W base spare held n 9 (([c0, c1, c2, c3].drop 0).take (Tryd.prog.cellsOf 9)) = some y0 := hf 0 _ rfl
  have h1 : DataW.trod enc Tryd.prog W base spare held n 2 (([c0, c1, c2, c3].drop 1).take (Tryd.prog.cellsOf 2)) = some y1 := hf 1 _ rfl
  have h2 : DataW.trod enc Tryd.prog W base spare held n 9 (([c0, c1, c2, c3].drop 2).take (Tryd.prog.cellsOf 9)) = some y2 := hf 2 _ rfl
  have h3 : DataW.trod enc Tryd.prog W base spare held n 9 (([c0, c1, c2, c3].drop 3).take (Tryd.prog.cellsOf 9)) = some y3 := hf 3 _ rfl
  rw [e1] at h0 h2 h3
  rw [e2] at h1
  simp only [List.drop_succ_cons, List.drop_zero, List.take_succ_cons, List.take_zero] at h0 h1 h2 h3
  obtain ⟨s0, i0, _, z0⟩ := DataW.trod_string Tryd.underlying9 h0
  obtain ⟨n1, i1, _, z1⟩ := DataW.trod_int Tryd.underlying2 h1
  obtain ⟨s2, i2, _, z2⟩ := DataW.trod_string Tryd.underlying9 h2
  obtain ⟨s3, i3, _, z3⟩ := DataW.trod_string Tryd.underlying9 h3
  simp only [List.cons.injEq, and_true] at i0 i1 i2 i3
  subst i0 i1 i2 i3
  exact ⟨⟨s0, n1, s2, s3⟩, ⟨z0, z2, z3, wf_i64 z1⟩, fun m hm => hat m hm⟩
set_option maxRecDepth 100000 in
theorem secs_open {A : Option Addr} {len cap : Nat} {d : DataW H} {p : List MemPlace} (h : DataW.Trod enc Tryd.prog W base spare held 49 (.slice A len cap) d p) :
    ∃ l, l.length = len ∧ Secs W (.slice A len cap) l := by
  obtain ⟨fuel, hf⟩ := h
  have e4 : Tryd.prog.cellsOf 95 = 4 := by kernel_rfl
  rcases Go.Deep.open_slice Tryd.underlying49 hf with ⟨h0, _⟩ | ⟨a, len', cap', m, n, D, Pl, hcs, hb, hl, hm, hmm, hx, hi⟩
  · simp [Value.cells] at h0
    obtain ⟨rfl, rfl, rfl⟩ := h0
    exact ⟨[], rfl, by simp, by simp, none, 0, rfl, fun h => by simp at h⟩
  · simp [Value.cells] at hcs
    obtain ⟨rfl, rfl, rfl⟩ := hcs
    have hlm : len ≤ m := by rw [hmm]; split <;> omega
    rw [e4] at hi
    have hall : ∀ i, ∃ y : Sec, i < len → (SecWf y ∧ ∀ m, m < 4 → W.cell? ((a.add (i * 4)).add m) = (secV y)[m]?) := by
      intro i
      by_cases h : i < len
      · obtain ⟨cs, hc, ht⟩ := hi i (by omega)
        obtain ⟨y, hy⟩ := sec_open hc ht
        exact ⟨y, fun _ => hy⟩
      · exact ⟨⟨ByteArray.empty, 0, ByteArray.empty, ByteArray.empty⟩, fun h' => absurd h' h⟩
    obtain ⟨f, hf'⟩ := Classical.axiomOfChoice hall
    refine ⟨(List.range len).map f, by simp, by simp; omega, ?_, some a, cap, by simp, fun h0 => ?_⟩
    · intro x hx
      obtain ⟨i, hi', rfl⟩ := List.mem_map.1 hx
      exact (hf' i (by simpa using hi')).1
    · simp at h0
      obtain ⟨b, off, spot⟩ := a
      have hc0 := (hf' 0 h0).2 0 (by omega)
      have hspot : spot = none := by simpa [Addr.add] using World.cell?_spot (show W.cell? _ = some (Value.string (f 0).name) from hc0)
      subst hspot
      refine ⟨b, off, rfl, ?_, fun j hj m hm' => ?_⟩
      · have := World.block_lt_of_cell? W _ (show W.cell? _ = some (Value.string (f 0).name) from hc0)
        simpa [Addr.add] using this
      · simp at hj
        have := (hf' j hj).2 m hm'
        have e1 : ((⟨b, off, none⟩ : Addr).add (j * 4)).add m = ⟨b, off + (j * 4 + m), none⟩ := by
          have h1 : ∀ k : Nat, (⟨b, off, none⟩ : Addr).add k = ⟨b, off + k, none⟩ := fun k => by unfold Addr.add; split <;> simp_all
          have h2 : ∀ o k : Nat, (⟨b, o, none⟩ : Addr).add k = ⟨b, o + k, none⟩ := fun o k => by unfold Addr.add; split <;> simp_all
          rw [h1, h2, Nat.add_assoc]
        rw [e1] at this
        rw [this]; simp
end
end Go.Proofs.YtbadpmghlclfkaaDoor
