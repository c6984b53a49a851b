/- Vaults that a call answers: carried over what else is written, marked, looked at again. -/
import Derived.Test.YtbadpmghlclfkaaDoorVaultN
import Derived.Test.YtbadpmghlclfkaaDoorVaultK
namespace Go.Proofs.YtbadpmghlclfkaaDoor
open Go.RowKit

theorem Secs.grown {w w' : World} {row : Option Nat} {v : Value} {l : List Sec} (h : Secs w v l) (hg : w.grownBy w' row) (hne : ∀ b, v.ownBlock = some b → row ≠ some b) : Secs w' v l := by
  obtain ⟨h1, h2, A, cap, rfl, h3⟩ := h
  refine ⟨h1, h2, A, cap, rfl, fun h0 => ?_⟩
  obtain ⟨b, off, rfl, hb, hc⟩ := h3 h0
  exact ⟨b, off, rfl, Nat.lt_of_lt_of_le hb hg.size, fun j hj m hm => (World.cell?_of_block (a := ⟨b, off + (j * 4 + m), none⟩) (hg.block b hb (fun e => hne b rfl e.symm))).trans (hc j hj m hm)⟩
theorem OwnSecs.grown {w w' : World} {row : Option Nat} {base : Nat} {v : Value} {l : List Sec} (h : OwnSecs w base v l) (hg : w.grownBy w' row) (hne : ∀ b, v.ownBlock = some b → row ≠ some b) : OwnSecs w' base v l := by
  obtain ⟨h1, h2, g, rfl, hb, hk⟩ := h
  exact ⟨h1, h2, g, rfl, hb, (hg.block g hk.lt (fun e => hne g rfl e.symm)).trans hk⟩
theorem OwnSecs.at_ {w : World} {base : Nat} {v : Value} {l : List Sec} (h : OwnSecs w base v l) : ∃ b, v.ownBlock = some b ∧ base ≤ b ∧ b < w.heap.size := by
  obtain ⟨h1, h2, g, rfl, hb, hk⟩ := h
  exact ⟨g, rfl, hb, hk.lt⟩
theorem GotSecs.secs {w : World} {base : Nat} {v : Value} {l : List Sec} (h : GotSecs w base v l) : Secs w v l := by
  rcases h with ⟨rfl, rfl⟩ | h
  · exact ⟨by unfold maxLen; simp, by simp, none, 0, rfl, fun h => by simp at h⟩
  · exact h.secs
theorem GotSecs.below {w w' : World} {base : Nat} {v : Value} {l : List Sec} (h : GotSecs w base v l) (k : Below w.heap.size w w') : GotSecs w' base v l := by
  rcases h with h | h
  · exact .inl h
  · exact .inr (h.below k)
theorem GotSecs.grown {w w' : World} {row : Option Nat} {base : Nat} {v : Value} {l : List Sec} (h : GotSecs w base v l) (hg : w.grownBy w' row) (hne : ∀ b, v.ownBlock = some b → row ≠ some b) : GotSecs w' base v l := by
  rcases h with h | h
  · exact .inl h
  · exact .inr (h.grown hg hne)
theorem GotSecs.far {w : World} {base : Nat} {v : Value} {l : List Sec} (h : GotSecs w base v l) : ∀ b, v.ownBlock = some b → base ≤ b := by
  intro b hb
  rcases h with ⟨_, rfl⟩ | h
  · simp [Value.ownBlock] at hb
  · obtain ⟨c, hc, h1, _⟩ := h.at_
    rw [hc] at hb
    cases hb
    exact h1
def MarkedGot (base k n : Nat) (v : Value) (w : World) (e : Ending) (w' : World) : Prop := e = .returned (.int .i64 ((k + 4 * n : Nat) : Int)) ∧ GotSecs w' base v (markRow k n) ∧ w.grownBy w' v.ownBlock
set_option maxHeartbeats 1000000 in
theorem markGot_any (v : Value) (l : List Sec) (k base : Nat) (w : World) (hk : k + 4 * l.length ≤ 10000000) (h1 : 1 ≤ k) (hv : GotSecs w base v l) :
    Calls Tryd.prog 37 #[v, .int .i64 (k : Int)] w (MarkedGot base k l.length v w) := by
  rcases hv with ⟨rfl, rfl⟩ | hv
  · go_enter Tryd.func37, Tryd.ntmps37
    go_wp2
    refine wp_loop_rounds 1 ?_
    rw [rounds_succ]
    go_wp2
    go_ret
    exact ⟨rfl, .inl ⟨rfl, rfl⟩, World.grownBy.refl _ _⟩
  · refine (markSecs_any v l k base w hk h1 hv).mono ?_
    rintro e w' ⟨h2, h3, h4⟩
    exact ⟨h2, .inr h3, h4⟩
theorem twinL_len (l : List Sec) (n : Int) : (twinL l n).length ≤ 4 := by
  unfold twinL
  split
  · rename_i h
    rw [List.length_map]
    exact vaultB_len h.1
  · simp
theorem twinL_wf {l : List Sec} (n : Int) (h : ∀ x ∈ l, SecWf x) : ∀ x ∈ twinL l n, SecWf x := by
  intro x hx
  unfold twinL at hx
  split at hx
  · obtain ⟨y, hy, rfl⟩ := List.mem_map.1 hx
    exact twinS_wf _ (h y hy)
  · simp at hx
end Go.Proofs.YtbadpmghlclfkaaDoor
