/- The program's globTakes: whether a part of a glob takes a byte. -/
import Derived.Test.YtbadpmghlclfkaaDoorGlobF
namespace Go.Proofs.YtbadpmghlclfkaaDoor
open Go.RowKit

set_option maxHeartbeats 400000 in
theorem takes_any (p : ByteArray) (i : Nat) (hi : i < p.size) (hp : p.size ≤ 1048576) (c : UInt8) (hb : p.data.toList[i]? = some 92 → i + 1 < p.size) (b : Bool) (hr : takesB p.data.toList i c = b) (w : World) :
    Calls Tryd.prog 137 #[.string p, .int .i64 (i : Int), .int .u8 (c.toNat : Int)] w fun e w' => e = .returned (.bool b) ∧ w = w' := by
  rw [takesB, toList_at p i hi] at hr
  rw [toList_at p i hi] at hb
  by_cases h : p[i] = 63
  · have h1 : ((p[i].toNat : Int) == 63) = true := is_byte (c := p[i]) 63 h (by decide)
    rw [h, if_pos rfl] at hr
    subst hr
    clear h hb
    go_enter Tryd.func137, Tryd.ntmps137
    go_wp2
    go_ret
    exact ⟨rfl, rfl⟩
  · have h1 : ((p[i].toNat : Int) == 63) = false := not_byte (c := p[i]) 63 h (by decide)
    rw [if_neg (by intro e; injection e with e; exact h e)] at hr
    by_cases h' : p[i] = 92
    · have h2 : ((p[i].toNat : Int) == 92) = true := is_byte (c := p[i]) 92 h' (by decide)
      have hj : i + 1 < p.size := hb (by rw [h'])
      rw [h', if_pos rfl, toList_at p (i + 1) hj] at hr
      have hr := Lib.hid hr
      have hB := Lib.hid (byte_same p[i + 1] c)
      clear h h' hb
      go_enter Tryd.func137, Tryd.ntmps137
      go_wp2
      go_ret
      exact ⟨ret_bool (by rw [← hr.out]; first | exact hB.out | (rw [← hB.out]; rfl)), rfl⟩
    · have h2 : ((p[i].toNat : Int) == 92) = false := not_byte (c := p[i]) 92 h' (by decide)
      rw [if_neg (by intro e; injection e with e; exact h' e)] at hr
      have hr := Lib.hid hr
      have hB := Lib.hid (byte_same p[i] c)
      clear h h' hb
      go_enter Tryd.func137, Tryd.ntmps137
      go_wp2
      go_ret
      exact ⟨ret_bool (by rw [← hr.out]; first | exact hB.out | (rw [← hB.out]; rfl)), rfl⟩
end Go.Proofs.YtbadpmghlclfkaaDoor
