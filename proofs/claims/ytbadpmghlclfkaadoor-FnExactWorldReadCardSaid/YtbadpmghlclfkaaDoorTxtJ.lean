/- strings.Join of texts. -/
import Derived.Test.YtbadpmghlclfkaaDoorTxtE
import Derived.Test.YtbadpmghlclfkaaDoorTxts
namespace Go.Proofs.YtbadpmghlclfkaaDoor
open Go.RowKit

theorem map_tx (l : List (List UInt8)) : (l.map bytesOf).map (fun x => x.data.toList) = l := by
  induction l with
  | nil => rfl
  | cons a l ih => rw [List.map_cons, List.map_cons, ih]; simp [bytesOf]
/-- strings.Join of texts that are not none. -/
theorem join_txts (u : Value) (ws : List (List UInt8)) (w : World) (h : Txts w u (ws.map bytesOf)) (h0 : ws ≠ []) (hl : (Lib.join ws [32]).length ≤ 1048576) :
    Calls Tryd.prog 82 #[u, .string ⟨#[32]⟩] w (Gives (.string (bytesOf (Lib.join ws [32]))) w) := by
  obtain ⟨h1, A, cap, rfl, hcap, hc⟩ := h
  have hpos : 0 < (ws.map bytesOf).length := by
    cases ws with
    | nil => exact absurd rfl h0
    | cons a l => simp
  obtain ⟨b, off, rfl, hcc⟩ := hc hpos
  have hlt := World.block_lt_of_cell? w _ (hcc 0 hpos)
  have e : ((ws.map bytesOf).map (fun x => x.data.toList)) = ws := map_tx ws
  refine (Tryd.strings_Join b off cap (ws.map bytesOf) ⟨#[32]⟩ w (fun j x hj => ?_) hlt (by omega) hcap ?_).mono ?_
  · obtain ⟨hj', rfl⟩ := List.getElem?_eq_some_iff.1 hj
    exact hcc j hj'
  · rw [e]; show (Lib.join ws [32]).length ≤ _; omega
  · rintro e1 w1 ⟨rfl, hb⟩
    refine ⟨?_, hb⟩
    rw [e]; rfl
end Go.Proofs.YtbadpmghlclfkaaDoor
