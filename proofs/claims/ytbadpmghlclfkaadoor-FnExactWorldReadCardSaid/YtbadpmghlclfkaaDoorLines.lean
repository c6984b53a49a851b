/- The lines of a text, as the program finds them (goto). -/
import Derived.Test.YtbadpmghlclfkaaDoorTxtW
import Derived.Test.YtbadpmghlclfkaaDoorLabels
namespace Go.Proofs.YtbadpmghlclfkaaDoor
open Go.RowKit

/-- The lines of a text: each that ends with a line feed. -/
def linesT (t : List UInt8) : List (List UInt8) := (splitB 10 [] t).dropLast
/-- Has each line its line feed? -/
def wholeT (t : List UInt8) : Bool := decide ((splitB 10 [] t).getLast? = some [])
/-- What linesOf answers. -/
def LinesEnd (t : List UInt8) (w : World) (e : Ending) (w' : World) : Prop := ∃ v, e = .returned (.tuple #[v, .bool (wholeT t)]) ∧ OwnTxts w' w.heap.size v (piecesT (linesT t)) ∧ Below w.heap.size w w'
theorem lines_end {l : List UInt8} {f : Nat} {outs : List (List UInt8)} (h : SInv 10 l l.length f outs) : linesT l = outs ∧ wholeT l = decide (f = l.length) := by
  have he := h.end_
  have hf := h.1
  unfold linesT wholeT
  rw [he, List.dropLast_concat, List.getLast?_append]
  refine ⟨rfl, ?_⟩
  simp
  constructor
  · intro h1; omega
  · intro h1; omega
def LJ (s : ByteArray) (w0 : World) : Nat → Act → World → Prop
  | 0, a', wr => ∃ (i f : Nat) (outs : List (List UInt8)) (row u1 u7 u8 u9 u10 u11 u12 u13 u14 u15 u16 u17 u18 u19 u20 u21 u22 u23 u24 u25 u26 u27 u28 u29 u30 : Value), a' = { tmps := #[.string s, u1, .slice none 0 0, .bool false, row, .int .i64 (f : Int), .int .i64 (i : Int), u7, u8, u9, u10, u11, u12, u13, u14, u15, u16, u17, u18, u19, u20, u21, u22, u23, u24, u25, u26, u27, u28, u29, u30], defers := [] } ∧ f ≤ i ∧ i ≤ s.size ∧ Hid (SInv 10 (tx s) i f outs) ∧ Hid (OwnTxts wr w0.heap.size row (piecesT outs)) ∧ Hid (Below w0.heap.size w0 wr)
  | _, _, _ => False
def Lμ (s : ByteArray) : Nat → Act → World → Nat
  | 0, a', _ => s.size + 1 - (intOf (a'.tmps.getD 6 undef)).toNat
  | _, _, _ => 0
set_option maxRecDepth 100000 in
set_option maxHeartbeats 8000000 in
theorem linesOf_any (s : ByteArray) (w : World) (hs : s.size ≤ 8000) :
    Calls Tryd.prog 48 #[.string s] w (LinesEnd (tx s) w) := by
  have hln := Lib.hid (tx_size s)
  go_enter Tryd.func48, Tryd.ntmps48
  go_wp2
  refine wp_scope_labels2 (LJ s w) (Lμ s) ?_ ?_
  · intro l a' w' hJ
    match l, hJ with
    | 0, hJ =>
      obtain ⟨i, f, outs, row, u1, u7, u8, u9, u10, u11, u12, u13, u14, u15, u16, u17, u18, u19, u20, u21, u22, u23, u24, u25, u26, u27, u28, u29, u30, rfl, hfi, hi1, hI, hO, hb⟩ := hJ
      refine ⟨_, rfl, ?_⟩
      have hol := Lib.hid (show (piecesT outs).length ≤ 8000 by rw [piecesT_len]; have := hI.out.2.2.1; omega)
      have hx := extract_piece s f i
      by_cases hlt : i < s.size
      · have hne : ((i : Int) == (s.size : Int)) = false := by simp; omega
        have hlt' : (i : Int) < (s.size : Int) := by omega
        have hil2 := Lib.hid (show i < (tx s).length by rw [hln.out]; exact hlt)
        by_cases hc : s[i].toNat = 10
        · have hc' : ((s[i].toNat : Int) == 10) = true := by simp; omega
          have hnew := Lib.hid (hI.out.cut hil2.out (byte_is hil2.out hlt 10 hc rfl))
          clear hI hc
          go_wp2_with (at_builtin; refine wpList_append_txts rfl (.tmp 22) (.tmp 28) rfl w.heap.size _ _ (piecesT outs) [bytesOf (((tx s).take i).drop f)] rfl (hO.out.below ((Below.refl _ _).alloc (Nat.le_refl _) _)) rfl (one_txt _ _ _) (by have := hol.out; simp; omega) (hb.out.alloc hb.out.size _) (by have := hb.out.size; simp; omega) ?_; intro v' w3 hO3 hb3; rw [← piecesT_snoc] at hO3; replace hO3 := Lib.hid hO3; replace hb3 := Lib.hid hb3)
          go_step3
          show LJ s w 0 _ _ ∧ _
          exact ⟨⟨i + 1, i + 1, outs ++ [((tx s).take i).drop f], _, _, _, _, _, _, _, _, _, _, _, _, _, _, _, _, _, _, _, _, _, _, _, _, _, _, rfl, Nat.le_refl _, by omega, hnew, hO3, hb3⟩, by show s.size + 1 - (intOf (Value.int IntKind.i64 ((i : Int) + 1))).toNat < s.size + 1 - (intOf (Value.int IntKind.i64 (i : Int))).toNat; simp [intOf]; omega⟩
        · have hc' : ((s[i].toNat : Int) == 10) = false := by simp; omega
          have hnew := Lib.hid (hI.out.other hil2.out (byte_not hil2.out hlt 10 hc rfl))
          clear hI hc hx
          go_wp2
          go_step3
          show LJ s w 0 _ _ ∧ _
          exact ⟨⟨i + 1, f, outs, _, _, _, _, _, _, _, _, _, _, _, _, _, _, _, _, _, _, _, _, _, _, _, _, _, _, rfl, by omega, by omega, hnew, hO, hb⟩, by show s.size + 1 - (intOf (Value.int IntKind.i64 ((i : Int) + 1))).toNat < s.size + 1 - (intOf (Value.int IntKind.i64 (i : Int))).toNat; simp [intOf]; omega⟩
      · obtain rfl : i = s.size := by omega
        have hne : ((s.size : Int) == (s.size : Int)) = true := by simp
        have hend := Lib.hid (lines_end (l := tx s) (f := f) (outs := outs) (by rw [hln.out]; exact hI.out))
        by_cases hf : f = s.size
        · have hf' : ((f : Int) == (s.size : Int)) = true := by simp; omega
          have hw := Lib.hid (show wholeT (tx s) = true by rw [hend.out.2, hln.out]; exact decide_eq_true hf)
          clear hx hf
          go_wp2
          rw [jumpsTo_ret]
          go_ret2
          exact ⟨_, by rw [hw.out]; rfl, by rw [hend.out.1]; exact hO.out, hb.out⟩
        · have hf' : ((f : Int) == (s.size : Int)) = false := by simp; omega
          have hw := Lib.hid (show wholeT (tx s) = false by rw [hend.out.2, hln.out]; exact decide_eq_false hf)
          clear hx hf
          go_wp2
          rw [jumpsTo_ret]
          go_ret2
          exact ⟨_, by rw [hw.out]; rfl, by rw [hend.out.1]; exact hO.out, hb.out⟩
    | n + 1, hJ => exact hJ.elim
  · intro hk
    go_wp2
    go_step3
    rename_i K hK
    refine hK _ _ (hk 0 _ _ _ rfl ?_)
    exact ⟨0, 0, [], _, _, _, _, _, _, _, _, _, _, _, _, _, _, _, _, _, _, _, _, _, _, _, _, _, _, rfl, Nat.le_refl _, Nat.zero_le _, Lib.hid (SInv.start 10 (tx s)), Lib.hid (OwnTxts.nil _ _), Lib.hid (Below.refl _ _)⟩
end Go.Proofs.YtbadpmghlclfkaaDoor
