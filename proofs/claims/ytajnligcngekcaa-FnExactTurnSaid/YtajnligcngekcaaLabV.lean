/- The model's marked texts: LabJoin and LabCut. -/
import Derived.Test.YtajnligcngekcaaLabU
namespace Go.Proofs.Ytajnligcngekcaa
open Go.RowKit

theorem bytes_cut (t : ByteArray) (p q : Nat) : bytesOf ((t.data.toList.drop p).take (q - p)) = t.extract p q := by
  apply ByteArray.ext
  show ((t.data.toList.drop p).take (q - p)).toArray = _
  rw [ByteArray.data_extract]
  apply Array.toList_inj.1
  simp
theorem Ints.sliced {w : World} {A : Option Addr} {n cap p q : Nat} {l : List Int} (h : Ints w (.slice A n cap) l) (h1 : p ≤ q) (h2 : q ≤ l.length) : Ints w (Go.sliced A p q cap 1) ((l.drop p).take (q - p)) := by
  have hl : ((l.drop p).take (q - p)).length = q - p := by simp; omega
  have hcap := h.cap_le
  unfold Go.sliced
  refine ⟨by have := h.1; omega, _, _, by rw [hl], by rw [hl]; omega, fun h0 => ?_⟩
  rw [hl] at h0
  obtain ⟨b, off, rfl, hb, hc⟩ := h.at_ p (by omega)
  refine ⟨b, off + p, ?_, fun i hi => ?_⟩
  · rw [if_neg (by omega)]
    have e1 : (⟨b, off, none⟩ : Addr).add p = ⟨b, off + p, none⟩ := by unfold Addr.add; split <;> simp_all
    rw [Nat.mul_one]; exact congrArg some e1
  · rw [hl] at hi
    obtain ⟨b', off', e, _, hc'⟩ := h.at_ (p + i) (by omega)
    cases e
    rw [Nat.add_assoc, hc']
    simp
end Go.Proofs.Ytajnligcngekcaa
