/- A line split into its words: how far one has come; the model's l06Words. A text split at a byte: the model's l01Split. -/
import Derived.Test.YtbadpmghlclfkaaDoorTxtS
import Derived.Test.YtbadpmghlclfkaaDoorTxts
import Derived.Test.YtbadpmghlclfkaaDoorTxtL
namespace Go.Proofs.YtbadpmghlclfkaaDoor
open Go.RowKit

/-- How far the splitting has come: place i, the word begins at f, in quotes or not, these words are out. -/
def WInv (l : List UInt8) (i f : Nat) (q : Bool) (outs : List (List UInt8)) : Prop := f ≤ i ∧ i ≤ l.length ∧ outs.length ≤ i ∧ splitW false [] l = outs ++ splitW q ((l.take i).drop f) (l.drop i)
theorem WInv.start (l : List UInt8) : WInv l 0 0 false [] := ⟨Nat.le_refl _, Nat.zero_le _, Nat.le_refl _, by simp⟩
theorem take_drop_succ {l : List UInt8} {i f : Nat} (h : i < l.length) (hf : f ≤ i) : (l.take (i + 1)).drop f = (l.take i).drop f ++ [l[i]] := by
  rw [List.take_succ_eq_append_getElem h, List.drop_append_of_le_length (by rw [List.length_take]; omega)]
theorem take_drop_same (l : List UInt8) (i : Nat) : (l.take i).drop i = [] := List.drop_eq_nil_of_le (by rw [List.length_take]; omega)
theorem WInv.blank {l : List UInt8} {i f : Nat} {outs : List (List UInt8)} (h : WInv l i f false outs) (hi : i < l.length) (hc : l[i] = 32) : WInv l (i + 1) (i + 1) false (outs ++ [(l.take i).drop f]) := by
  obtain ⟨h1, h2, h3, h4⟩ := h
  refine ⟨Nat.le_refl _, hi, by simp; omega, ?_⟩
  rw [h4, List.drop_eq_getElem_cons hi, hc, splitW, if_pos ⟨rfl, rfl⟩, take_drop_same]
  simp
theorem WInv.quote {l : List UInt8} {i f : Nat} {q : Bool} {outs : List (List UInt8)} (h : WInv l i f q outs) (hi : i < l.length) (hc : l[i] = 34) : WInv l (i + 1) f (!q) outs := by
  obtain ⟨h1, h2, h3, h4⟩ := h
  refine ⟨by omega, hi, by omega, ?_⟩
  rw [h4, List.drop_eq_getElem_cons hi, hc, splitW, if_neg (by rintro ⟨e, _⟩; revert e; decide), if_pos rfl, take_drop_succ hi h1, hc]
theorem WInv.other {l : List UInt8} {i f : Nat} {q : Bool} {outs : List (List UInt8)} (h : WInv l i f q outs) (hi : i < l.length) (hc : l[i] ≠ 34) (hb : ¬ (l[i] = 32 ∧ q = false)) : WInv l (i + 1) f q outs := by
  obtain ⟨h1, h2, h3, h4⟩ := h
  refine ⟨by omega, hi, by omega, ?_⟩
  rw [h4, List.drop_eq_getElem_cons hi, splitW, if_neg hb, if_neg hc, take_drop_succ hi h1]
theorem WInv.end_ {l : List UInt8} {f : Nat} {q : Bool} {outs : List (List UInt8)} (h : WInv l l.length f q outs) : splitW false [] l = outs ++ [(l.take l.length).drop f] := by
  obtain ⟨h1, h2, h3, h4⟩ := h
  rw [h4, List.drop_length, splitW]
/-- A piece of a text. -/
theorem extract_piece (s : ByteArray) (f i : Nat) : s.extract f i = bytesOf (((tx s).take i).drop f) := by
  apply ByteArray.ext
  apply Array.ext'
  rw [ByteArray.data_extract, Array.toList_extract]
  simp [bytesOf, tx, List.extract_eq_take_drop, List.drop_take]
def piecesT (l : List (List UInt8)) : List ByteArray := l.map bytesOf
theorem piecesT_snoc (l : List (List UInt8)) (a : List UInt8) : piecesT (l ++ [a]) = piecesT l ++ [bytesOf a] := by simp [piecesT]
theorem byte_is {s : ByteArray} {i : Nat} (_h : i < (tx s).length) (h' : i < s.size) (c : UInt8) {n : Nat} (e : s[i].toNat = n) (hc : c.toNat = n) : (tx s)[i] = c := UInt8.toNat_inj.1 (show s[i].toNat = c.toNat by rw [e, hc])
theorem byte_not {s : ByteArray} {i : Nat} (_h : i < (tx s).length) (h' : i < s.size) (c : UInt8) {n : Nat} (e : ¬ s[i].toNat = n) (hc : c.toNat = n) : (tx s)[i] ≠ c := fun h2 => e (by rw [← hc, ← h2]; rfl)
theorem byte_eq {s : ByteArray} {i : Nat} (h : i < s.size) : s[i] = (tx s)[i]'(by simpa [tx] using h) := rfl
theorem split_len (l : List UInt8) : ∀ q cur, (splitW q cur l).length ≤ l.length + 1 := by
  induction l with
  | nil => intro q cur; simp [splitW]
  | cons c l ih =>
    intro q cur
    rw [splitW]
    split
    · have := ih false []; simp; omega
    · have := ih (if c = 34 then !q else q) (cur ++ [c]); simp; omega
theorem own_empty (w : World) : OwnTxts (w.alloc (.cells #[] 9)) w.heap.size (.slice (some ⟨w.heap.size, 0, none⟩) 0 0) [] :=
  ⟨by simp, by simp, .inr ⟨w.heap.size, 0, #[], rfl, Nat.le_refl _, heap_alloc_new w _, Nat.le_refl _, by unfold maxLen; omega, rfl, rfl⟩⟩
theorem piecesT_len (l : List (List UInt8)) : (piecesT l).length = l.length := by simp [piecesT]
end Go.Proofs.YtbadpmghlclfkaaDoor
namespace Go.Proofs.YtbadpmghlclfkaaDoor
open Go.RowKit

/-- How far the splitting has come: place i, the piece begins at f, these pieces are out. -/
def SInv (b : UInt8) (l : List UInt8) (i f : Nat) (outs : List (List UInt8)) : Prop := f ≤ i ∧ i ≤ l.length ∧ outs.length ≤ i ∧ splitB b [] l = outs ++ splitB b ((l.take i).drop f) (l.drop i)
theorem SInv.start (b : UInt8) (l : List UInt8) : SInv b l 0 0 [] := ⟨Nat.le_refl _, Nat.zero_le _, Nat.le_refl _, by simp⟩
theorem SInv.cut {b : UInt8} {l : List UInt8} {i f : Nat} {outs : List (List UInt8)} (h : SInv b l i f outs) (hi : i < l.length) (hc : l[i] = b) : SInv b l (i + 1) (i + 1) (outs ++ [(l.take i).drop f]) := by
  obtain ⟨h1, h2, h3, h4⟩ := h
  refine ⟨Nat.le_refl _, hi, by simp; omega, ?_⟩
  rw [h4, List.drop_eq_getElem_cons hi, splitB, if_pos hc, take_drop_same]
  simp
theorem SInv.other {b : UInt8} {l : List UInt8} {i f : Nat} {outs : List (List UInt8)} (h : SInv b l i f outs) (hi : i < l.length) (hc : l[i] ≠ b) : SInv b l (i + 1) f outs := by
  obtain ⟨h1, h2, h3, h4⟩ := h
  refine ⟨by omega, hi, by omega, ?_⟩
  rw [h4, List.drop_eq_getElem_cons hi, splitB, if_neg hc, take_drop_succ hi h1]
theorem SInv.end_ {b : UInt8} {l : List UInt8} {f : Nat} {outs : List (List UInt8)} (h : SInv b l l.length f outs) : splitB b [] l = outs ++ [(l.take l.length).drop f] := by
  obtain ⟨h1, h2, h3, h4⟩ := h
  rw [h4, List.drop_length, splitB]
/-- Texts in memory of the call's own. -/
def TxOwn (l : List ByteArray) (w : World) (e : Ending) (w' : World) : Prop := ∃ u, e = .returned u ∧ OwnTxts w' w.heap.size u l ∧ Below w.heap.size w w'
set_option maxRecDepth 20000 in
set_option maxHeartbeats 8000000 in
theorem split_own (s : ByteArray) (b : UInt8) (w : World) (hs : s.size ≤ 8000) :
    Calls Tryd.prog 50 #[.string s, .int .u8 (b.toNat : Int)] w (TxOwn (piecesT (splitB b [] (tx s))) w) := by
  have hln := tx_size s
  have hN0 := Lib.hid (show OwnTxts (w.alloc (.cells #[] 9)) w.heap.size (.slice (some ⟨w.heap.size, 0, none⟩) 0 0) (piecesT []) from own_empty w)
  have hb0 := Lib.hid ((Below.refl w.heap.size w).alloc (Nat.le_refl _) (.cells #[] 9))
  have hst := Lib.hid (SInv.start b (tx s))
  replace hln := Lib.hid hln
  go_enter Tryd.func50, Tryd.ntmps50
  go_wp2
  go_loopw [5, 6, 7] (fun u a c wr => ∃ (i f : Nat) (outs : List (List UInt8)), a = .int .i64 (f : Int) ∧ c = .int .i64 (i : Int) ∧ f ≤ i ∧ i ≤ s.size ∧ Hid (SInv b (tx s) i f outs) ∧ Hid (OwnTxts wr w.heap.size u (piecesT outs)) ∧ Hid (Below w.heap.size w wr)) (fun _ _ c _ => s.size + 1 - (intOf c).toNat)
  case atStart => exact ⟨0, 0, [], rfl, rfl, Nat.le_refl _, Nat.zero_le _, hst, hN0, hb0⟩
  case round =>
    obtain ⟨i, f, outs, rfl, rfl, hfi, hi1, hI, hO, hb⟩ := hrel
    have hol := Lib.hid (show (piecesT outs).length ≤ 8000 by rw [piecesT_len]; have := hI.out.2.2.1; omega)
    have hx := extract_piece s f i
    by_cases hlt : i < s.size
    · have hlt' : (i : Int) < (s.size : Int) := by omega
      have hil2 := Lib.hid (show i < (tx s).length by rw [hln.out]; exact hlt)
      by_cases hc : s[i].toNat = b.toNat
      · have hc' : ((s[i].toNat : Int) == (b.toNat : Int)) = true := by simp; omega
        have hcI : (s[i].toNat : Int) = (b.toNat : Int) := by omega
        have hnew := Lib.hid (hI.out.cut hil2.out (byte_is hil2.out hlt b hc rfl))
        clear hI hc
        go_wp2_with (at_builtin; refine wpList_append_txts rfl (.tmp 20) (.tmp 25) rfl w.heap.size _ _ (piecesT outs) [bytesOf (((tx s).take i).drop f)] rfl (hO.out.below ((Below.refl _ _).alloc (Nat.le_refl _) _)) rfl (one_txt _ _ _) (by have := hol.out; simp; omega) (hb.out.alloc hb.out.size _) (by have := hb.out.size; simp; omega) ?_; intro v' w3 hO3 hb3; rw [← piecesT_snoc] at hO3; replace hO3 := Lib.hid hO3; replace hb3 := Lib.hid hb3)
        go_roundw
        case rel => exact ⟨i + 1, i + 1, outs ++ [((tx s).take i).drop f], by go_num, by go_num, Nat.le_refl _, by omega, hnew, hO3, hb3⟩
        case measure => simp [intOf]; omega
      · have hc' : ((s[i].toNat : Int) == (b.toNat : Int)) = false := by simp; omega
        have hcI : ¬ (s[i].toNat : Int) = (b.toNat : Int) := by omega
        have hnew := Lib.hid (hI.out.other hil2.out (byte_not hil2.out hlt b hc rfl))
        clear hI hc hx
        go_wp2
        go_roundw
        case rel => exact ⟨i + 1, f, outs, rfl, by go_num, by omega, by omega, hnew, hO, hb⟩
        case measure => simp [intOf]; omega
    · have hlt' : ¬ (i : Int) < (s.size : Int) := by omega
      obtain rfl : i = s.size := by omega
      have hfin := Lib.hid (show splitB b [] (tx s) = outs ++ [((tx s).take s.size).drop f] by
        have h9 := hI.out
        have hi9 : s.size = (tx s).length := by rw [hln.out]
        rw [hi9] at h9 ⊢
        exact h9.end_)
      clear hI
      go_wp2_with (at_builtin; refine wpList_append_txts rfl (.tmp 29) (.tmp 33) rfl w.heap.size _ _ (piecesT outs) [bytesOf (((tx s).take s.size).drop f)] rfl (hO.out.below ((Below.refl _ _).alloc (Nat.le_refl _) _)) rfl (one_txt _ _ _) (by have := hol.out; simp; omega) (hb.out.alloc hb.out.size _) (by have := hb.out.size; simp; omega) ?_; intro v' w3 hO3 hb3; rw [← piecesT_snoc] at hO3; replace hO3 := Lib.hid hO3; replace hb3 := Lib.hid hb3)
      go_ret
      exact ⟨_, rfl, by rw [hfin.out]; exact hO3.out, hb3.out⟩
theorem split_any (s : ByteArray) (b : UInt8) (w : World) (hs : s.size ≤ 8000) :
    Calls Tryd.prog 50 #[.string s, .int .u8 (b.toNat : Int)] w (TxEnd (piecesT (splitB b [] (tx s))) w) :=
  (split_own s b w hs).mono fun _ _ ⟨u, he, ho, hb⟩ => ⟨u, he, ho.txts, hb⟩
end Go.Proofs.YtbadpmghlclfkaaDoor
