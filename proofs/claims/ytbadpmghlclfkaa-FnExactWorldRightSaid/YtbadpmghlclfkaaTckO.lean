/- Arguments that are ticks or lists of ticks: read as they lie. -/
import Derived.Test.YtbadpmghlclfkaaTckS
import Derived.Deep.Slices
import Derived.ChangeSame
import Derived.ChangeArms
import Derived.OpenShut
namespace Go.Proofs.Ytbadpmghlclfkaa
open Go.RowKit Go.ChangeShapes Go.WideShapes

section
variable {H : Type} {enc : TypeId × Value → H} {W : World} {base : Nat} {spare : Nat → Bool} {held : Bool}
theorem array3 {α : Type} {cs : Array α} (h : cs.size = 3) : ∃ c0 c1 c2, cs = #[c0, c1, c2] := by
  obtain ⟨l⟩ := cs
  match l, h with
  | [c0, c1, c2], _ => exact ⟨c0, c1, c2, rfl⟩
set_option maxRecDepth 100000 in
/-- The cells of a tick, as they are read. -/
theorem tik_cells {fuel : Nat} {cs : List Value} {x : DataW H × List MemPlace} (hcl : cs.length = 3) (h : DataW.trod enc Try.prog W base spare held fuel 23 cs = some x) :
    ∃ y : Tik, TikWf y ∧ cs = tikV y := by
  obtain ⟨xs, n, _, _, _, hlen, hf⟩ := DataW.trod_struct Try.underlying23 h
  have e1 : Try.prog.cellsOf 9 = 1 := by kernel_rfl
  have e2 : Try.prog.cellsOf 2 = 1 := by kernel_rfl
  obtain ⟨c0, c1, c2, rfl⟩ : ∃ c0 c1 c2, cs = [c0, c1, c2] := by
    match cs, hcl with
    | [c0, c1, c2], _ => exact ⟨_, _, _, rfl⟩
  obtain ⟨y0, y1, y2, rfl⟩ : ∃ y0 y1 y2, xs = [y0, y1, y2] := by
    match xs, hlen with
    | [y0, y1, y2], _ => exact ⟨_, _, _, rfl⟩
  have h0 : DataW.trod enc Try.prog W base spare held n 2 (([c0, c1, c2].drop 0).take (Try.prog.cellsOf 2)) = some y0 := hf 0 _ rfl
  have h1 : DataW.trod enc Try.prog W base spare held n 2 (([c0, c1, c2].drop 1).take (Try.prog.cellsOf 2)) = some y1 := hf 1 _ rfl
  have h2 : DataW.trod enc Try.prog W base spare held n 9 (([c0, c1, c2].drop 2).take (Try.prog.cellsOf 9)) = some y2 := hf 2 _ rfl
  rw [e2] at h0 h1
  rw [e1] at h2
  simp only [List.drop_succ_cons, List.drop_zero, List.take_succ_cons, List.take_zero] at h0 h1 h2
  obtain ⟨n0, i0, _, z0⟩ := DataW.trod_int Try.underlying2 h0
  obtain ⟨n1, i1, _, z1⟩ := DataW.trod_int Try.underlying2 h1
  obtain ⟨s2, i2, _, z2⟩ := DataW.trod_string Try.underlying9 h2
  simp only [List.cons.injEq, and_true] at i0 i1 i2
  subst i0 i1 i2
  exact ⟨⟨n0, n1, s2⟩, ⟨z2, wf_i64 z0, wf_i64 z1⟩, rfl⟩
set_option maxRecDepth 100000 in
theorem tik_open {v : Value} {d : DataW H} {p : List MemPlace} (hv : Value.okWide Try.prog W .any base 23 v) (h : DataW.Trod enc Try.prog W 0 spare held 23 v d p) :
    ∃ y : Tik, v = tikA y ∧ TikWf y := by
  have e6 : Try.prog.cellsOf 23 = 3 := by kernel_rfl
  obtain ⟨cs, rfl, hsz⟩ := okWide_struct Try.underlying23 hv
  obtain ⟨c0, c1, c2, rfl⟩ := array3 (hsz.trans e6)
  obtain ⟨fuel, hf⟩ := h
  obtain ⟨y, hy, e⟩ := tik_cells (by rfl) hf
  refine ⟨y, ?_, hy⟩
  have e' : [c0, c1, c2] = tikV y := e
  unfold tikA
  have : #[c0, c1, c2] = (tikV y).toArray := by rw [← e']
  rw [this]; rfl
theorem tik_at {fuel : Nat} {a : Addr} {cs : List Value} {x : DataW H × List MemPlace} (hc : W.cells? base a 3 = some cs) (h : DataW.trod enc Try.prog W base spare held fuel 23 cs = some x) :
    ∃ y : Tik, TikWf y ∧ ∀ m, m < 3 → W.cell? (a.add m) = (tikV y)[m]? := by
  obtain ⟨_, hcl, hat⟩ := World.cells?_some hc
  obtain ⟨y, hy, rfl⟩ := tik_cells hcl h
  exact ⟨y, hy, fun m hm => hat m hm⟩
set_option maxRecDepth 100000 in
theorem tiks_open {A : Option Addr} {len cap : Nat} {d : DataW H} {p : List MemPlace} (h : DataW.Trod enc Try.prog W base spare held 29 (.slice A len cap) d p) :
    ∃ l, l.length = len ∧ Tiks W (.slice A len cap) l := by
  obtain ⟨fuel, hf⟩ := h
  have e4 : Try.prog.cellsOf 23 = 3 := by kernel_rfl
  rcases Go.Deep.open_slice Try.underlying29 hf with ⟨h0, _⟩ | ⟨a, len', cap', m, n, D, Pl, hcs, hb, hl, hm, hmm, hx, hi⟩
  · simp [Value.cells] at h0
    obtain ⟨rfl, rfl, rfl⟩ := h0
    exact ⟨[], rfl, by simp, by simp, none, 0, rfl, fun h => by simp at h⟩
  · simp [Value.cells] at hcs
    obtain ⟨rfl, rfl, rfl⟩ := hcs
    have hlm : len ≤ m := by rw [hmm]; split <;> omega
    rw [e4] at hi
    have hall : ∀ i, ∃ y : Tik, i < len → (TikWf y ∧ ∀ m, m < 3 → W.cell? ((a.add (i * 3)).add m) = (tikV y)[m]?) := by
      intro i
      by_cases h : i < len
      · obtain ⟨cs, hc, ht⟩ := hi i (by omega)
        obtain ⟨y, hy⟩ := tik_at hc ht
        exact ⟨y, fun _ => hy⟩
      · exact ⟨⟨0, 0, ByteArray.empty⟩, fun h' => absurd h' h⟩
    obtain ⟨f, hf'⟩ := Classical.axiomOfChoice hall
    refine ⟨(List.range len).map f, by simp, by simp; omega, ?_, some a, cap, by simp, fun h0 => ?_⟩
    · intro x hx
      obtain ⟨i, hi', rfl⟩ := List.mem_map.1 hx
      exact (hf' i (by simpa using hi')).1
    · simp at h0
      obtain ⟨b, off, spot⟩ := a
      have hc0 := (hf' 0 h0).2 0 (by omega)
      have hspot : spot = none := by simpa [Addr.add] using World.cell?_spot (show W.cell? _ = some (Value.int .i64 (f 0).kind) from hc0)
      subst hspot
      refine ⟨b, off, rfl, ?_, fun j hj m hm' => ?_⟩
      · have := World.block_lt_of_cell? W _ (show W.cell? _ = some (Value.int .i64 (f 0).kind) from hc0)
        simpa [Addr.add] using this
      · simp at hj
        have := (hf' j hj).2 m hm'
        have e1 : ((⟨b, off, none⟩ : Addr).add (j * 3)).add m = ⟨b, off + (j * 3 + m), none⟩ := by
          have h1 : ∀ k : Nat, (⟨b, off, none⟩ : Addr).add k = ⟨b, off + k, none⟩ := fun k => by unfold Addr.add; split <;> simp_all
          have h2 : ∀ o k : Nat, (⟨b, o, none⟩ : Addr).add k = ⟨b, o + k, none⟩ := fun o k => by unfold Addr.add; split <;> simp_all
          rw [h1, h2, Nat.add_assoc]
        rw [e1] at this
        rw [this]; simp
end
end Go.Proofs.Ytbadpmghlclfkaa
