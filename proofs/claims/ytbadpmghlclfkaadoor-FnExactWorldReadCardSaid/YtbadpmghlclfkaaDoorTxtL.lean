/- The words of parts, one by one (impl.partTexts). How long the text of a right statement is. -/
import Derived.Test.YtbadpmghlclfkaaDoorTxtP
import Derived.Test.YtbadpmghlclfkaaDoorTxts
import Derived.Test.YtbadpmghlclfkaaDoorStmT
namespace Go.Proofs.YtbadpmghlclfkaaDoor
open Go.RowKit

/-- A call that answers texts, and writes into new memory alone. -/
def TxEnd (l : List ByteArray) (w : World) (e : Ending) (w' : World) : Prop := ∃ u, e = .returned u ∧ Txts w' u l ∧ Below w.heap.size w w'
def wordsP (l : List Prt) : List ByteArray := l.map fun p => bytesOf (partT p)
theorem wordsP_take {l : List Prt} {k : Nat} (h : k < l.length) : wordsP (l.take (k + 1)) = wordsP (l.take k) ++ [bytesOf (partT l[k])] := by
  unfold wordsP
  rw [List.take_succ_eq_append_getElem h, List.map_append]
  rfl
theorem one_txt (w : World) (x : ByteArray) (t : TypeId) : Txts (w.alloc (.cells #[.string x] t)) (.slice (some ⟨w.heap.size, 0, none⟩) 1 1) [x] :=
  txts_blk (t := t) (show Blk _ _ _ ([x].map txV) from heap_alloc_new w _) rfl (by decide)
end Go.Proofs.YtbadpmghlclfkaaDoor
namespace Go.Proofs.YtbadpmghlclfkaaDoor

theorem join_len : ∀ (ws : List (List UInt8)) (m : Nat), (∀ w ∈ ws, w.length ≤ m) → (Lib.join ws [32]).length ≤ ws.length * (m + 1)
  | [], _, _ => by simp [Lib.join, List.intercalate, List.intersperse]
  | [a], m, h => by rw [join_one]; have := h a (by simp); simp; omega
  | a :: b :: l, m, h => by
    rw [join_cons2]
    have h1 := h a (by simp)
    have h2 := join_len (b :: l) m (fun w hw => h w (by simp at hw ⊢; right; exact hw))
    simp only [List.length_append, List.length_cons] at h2 ⊢
    have : (l.length + 1 + 1) * (m + 1) = (l.length + 1) * (m + 1) + (m + 1) := by rw [Nat.add_mul, Nat.one_mul]
    omega
theorem tx_size (x : ByteArray) : (tx x).length = x.size := by simp [tx]
theorem partT_len {p : Prt} (h : partOk p = true) : (partT p).length ≤ 40 := by
  have hs := part_size h
  have ht := tx_size p.text
  rcases part_cases h with ⟨k, _⟩ | ⟨k, _⟩ | ⟨k, _, h0, h1, h2⟩
  · rw [partT1 k]; simp; omega
  · rw [partT2 k]; simp; omega
  · have := itoa_short p.lo h0 (by omega)
    have := itoa_short p.hi (by omega) h2
    rw [partT3 k]; simp; omega
theorem words_len {x : Stm} (h : stmtOk x = true) : (wordsT x).length ≤ 8 ∧ ∀ w ∈ wordsT x, w.length ≤ 40 := by
  have hw : ∀ {t : ByteArray}, wordB (tx t) = true → (tx t).length ≤ 40 := fun h => by have := (word_parts h).2.1; omega
  have hp : ∀ {l : List Prt}, partsB l = true → (l.map partT).length ≤ 6 ∧ ∀ w ∈ l.map partT, w.length ≤ 40 := fun {l} h => by
    have h2 := parts_all h
    refine ⟨by simpa using h2.1, fun w hw => ?_⟩
    obtain ⟨p, hp, rfl⟩ := List.mem_map.1 hw
    exact partT_len (h2.2 p hp)
  have hi : ∀ n : Int, 0 ≤ n → n ≤ 200 → (Lib.itoa n).length ≤ 40 := fun n h0 h1 => by have := itoa_short n h0 h1; omega
  rcases stmt_cases h with ⟨k, h1, h2, h3, h4, h5⟩ | ⟨k, h1, h2, h3, h4, h5⟩ | ⟨k, h1, h2, h3, h4, h5⟩ | ⟨k, h1, h2, h3, h4, h5, h6⟩ | ⟨k, h1, h2, h3, h4, h5⟩ | ⟨k, h1, h2, h3, h4, h5, h6, h7⟩ | ⟨k, h1, h2, h3, h4, h5⟩ | ⟨k, h1, h2, h3, h4, h5⟩
  · have e : wordsT x = wSet :: tx x.name :: x.parts.map partT := by unfold wordsT; rw [if_pos k]
    rw [e]; exact ⟨by have := (hp h2).1; simp at this ⊢; omega, all_cons (by decide) (all_cons (hw h1) (hp h2).2)⟩
  · have e : wordsT x = [wSecret, tx x.name, tx x.text] := by unfold wordsT; rw [if_neg (by omega), if_pos k]
    rw [e]; exact ⟨by simp, all_cons (by decide) (all_cons (hw h1) (all_cons (hw h2) all_nil))⟩
  · have e : wordsT x = wSay :: Lib.itoa x.num :: x.parts.map partT := by unfold wordsT; rw [if_neg (by omega), if_neg (by omega), if_pos k]
    rw [e]; exact ⟨by have := (hp h2).1; simp at this ⊢; omega, all_cons (by decide) (all_cons (hi _ h1.1 (by omega)) (hp h2).2)⟩
  · have e : wordsT x = [wWait, Lib.itoa x.num, tx x.text, tx x.name, Lib.itoa x.dest] := by unfold wordsT; rw [if_neg (by omega), if_neg (by omega), if_neg (by omega), if_pos k]
    have hg : (tx x.text).length ≤ 40 := by
      have h9 := h2
      simp only [globOk, Bool.and_eq_true, decide_eq_true_eq] at h9
      omega
    rw [e]; exact ⟨by simp, all_cons (by decide) (all_cons (hi _ h1.1 (by omega)) (all_cons hg (all_cons (hw h4) (all_cons (hi _ h5.1 (by omega)) all_nil))))⟩
  · have e : wordsT x = wLog :: x.parts.map partT := by unfold wordsT; rw [if_neg (by omega), if_neg (by omega), if_neg (by omega), if_neg (by omega), if_pos k]
    rw [e]; exact ⟨by have := (hp h1).1; simp at this ⊢; omega, all_cons (by decide) (hp h1).2⟩
  · have e : wordsT x = [wIf, tx x.name, if tx x.text = [] then [46] else tx x.text, Lib.itoa x.dest] := by unfold wordsT; rw [if_neg (by omega), if_neg (by omega), if_neg (by omega), if_neg (by omega), if_neg (by omega), if_pos k]
    have ht : (if tx x.text = [] then [46] else tx x.text).length ≤ 40 := by
      split
      · simp
      · have := tx_size x.text; omega
    rw [e]; exact ⟨by simp, all_cons (by decide) (all_cons (hw h1) (all_cons ht (all_cons (hi _ h5.1 (by omega)) all_nil)))⟩
  · have e : wordsT x = [wGoto, Lib.itoa x.dest] := by unfold wordsT; rw [if_neg (by omega), if_neg (by omega), if_neg (by omega), if_neg (by omega), if_neg (by omega), if_neg (by omega), if_pos k]
    rw [e]; exact ⟨by simp, all_cons (by decide) (all_cons (hi _ h1.1 (by omega)) all_nil)⟩
  · have e : wordsT x = [wEnd, Lib.itoa x.num] := by unfold wordsT; rw [if_neg (by omega), if_neg (by omega), if_neg (by omega), if_neg (by omega), if_neg (by omega), if_neg (by omega), if_neg (by omega), if_pos k]
    rw [e]; exact ⟨by simp, all_cons (by decide) (all_cons (hi _ h1.1 (by omega)) all_nil)⟩
theorem stmtT_len {x : Stm} (h : stmtOk x = true) : (stmtT x).length ≤ 328 := by
  have hw := words_len h
  have := join_len (wordsT x) 40 hw.2
  unfold stmtT
  have : (wordsT x).length * 41 ≤ 8 * 41 := Nat.mul_le_mul_right _ hw.1
  omega
/-- A statement's text; of one that is not right none. -/
def textB (x : Stm) : ByteArray := if stmtOk x = true then bytesOf (stmtT x) else ⟨#[]⟩
end Go.Proofs.YtbadpmghlclfkaaDoor
