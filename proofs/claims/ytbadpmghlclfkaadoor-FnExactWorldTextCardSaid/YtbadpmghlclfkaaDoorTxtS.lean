/- A right statement is read again from its text, as the model reads it. -/
import Derived.Test.YtbadpmghlclfkaaDoorTxtN
namespace Go.Proofs.YtbadpmghlclfkaaDoor

/-- A number of at most nine digits; -1: it is none. -/
def numF (n : Int) : List UInt8 → Int
  | [] => n
  | c :: l => if 48 ≤ c.toNat ∧ c.toNat ≤ 57 then numF (10 * n + ((c.toNat : Int) - 48)) l else -1
def numS (l : List UInt8) : Int :=
  if l.length < 1 ∨ 9 < l.length ∨ (1 < l.length ∧ l[0]? = some 48) then -1 else numF 0 l
/-- The pieces between bytes of one kind. -/
def splitB (b : UInt8) : List UInt8 → List UInt8 → List (List UInt8)
  | cur, [] => [cur]
  | cur, c :: l => if c = b then cur :: splitB b [] l else splitB b (cur ++ [c]) l
theorem splitB_none {b : UInt8} : ∀ (l cur : List UInt8), (∀ c ∈ l, c ≠ b) → splitB b cur l = [cur ++ l]
  | [], cur, _ => by simp [splitB]
  | c :: l, cur, h => by rw [splitB, if_neg (h c (by simp)), splitB_none l _ (fun d hd => h d (by simp [hd]))]; simp
theorem splitB_one {b : UInt8} : ∀ (a cur r : List UInt8), (∀ c ∈ a, c ≠ b) → splitB b cur (a ++ b :: r) = (cur ++ a) :: splitB b [] r
  | [], cur, r, _ => by simp [splitB]
  | c :: a, cur, r, h => by rw [List.cons_append, splitB, if_neg (h c (by simp)), splitB_one a _ r (fun d hd => h d (by simp [hd]))]; simp
def prt0 : Prt := ⟨0, noText, 0, 0⟩
/-- A part read from its word. -/
def partS (w : List UInt8) : Prt :=
  if 2 ≤ w.length ∧ w[0]? = some 34 then ⟨1, bytesOf ((w.drop 1).take (w.length - 2)), 0, 0⟩
  else if w.length < 1 ∨ w[0]? ≠ some 36 then prt0
  else if (splitB 91 [] (w.drop 1)).length ≠ 2 ∨ (splitB 91 [] (w.drop 1)).getD 1 [] = [] then ⟨2, bytesOf (w.drop 1), 0, 0⟩
  else ⟨3, bytesOf ((splitB 91 [] (w.drop 1)).getD 0 []), numS ((splitB 58 [] ((splitB 91 [] (w.drop 1)).getD 1 []).dropLast).getD 0 []),
    if (splitB 58 [] ((splitB 91 [] (w.drop 1)).getD 1 []).dropLast).length = 2 then numS ((splitB 58 [] ((splitB 91 [] (w.drop 1)).getD 1 []).dropLast).getD 1 []) else 0⟩
theorem digs3_num : ∀ n : Fin 201, numS (digs3 n.1) = (n.1 : Int) := by decide +kernel
theorem num_itoa (n : Int) (h0 : 0 ≤ n) (h1 : n ≤ 200) : numS (Lib.itoa n) = n := by
  rw [itoa_digs n h0 h1, digs3_num ⟨n.toNat, by omega⟩]
  simp; omega
theorem partS_back {p : Prt} (h : partOk p = true) : partS (partT p) = p := by
  rcases part_cases h with ⟨k, _, hp, h3, h4⟩ | ⟨k, hw, h3, h4⟩ | ⟨k, hw, h0, h1, h2⟩
  · rw [partT1 k]; unfold partS
    rw [if_pos ⟨by simp, rfl⟩]
    have e : ((34 :: (tx p.text ++ [34]) : List UInt8).drop 1).take ((34 :: (tx p.text ++ [34]) : List UInt8).length - 2) = tx p.text := by simp
    rw [e, bytes_tx]
    exact (prt_ext k rfl h3 h4).symm
  · rw [partT2 k]; unfold partS
    rw [if_neg (by simp), if_neg (by simp), List.drop_succ_cons, List.drop_zero, splitB_none _ _ (fun c hc => ne_of_nat (by have := word_all hw c hc; show c.toNat ≠ 91; omega)), if_pos (.inl (by simp)), bytes_tx]
    exact (prt_ext k rfl h3 h4).symm
  · rw [partT3 k]; unfold partS
    have hd : ∀ m : Int, 0 ≤ m → m ≤ 200 → ∀ d : UInt8, (d.toNat < 48 ∨ 57 < d.toNat) → ∀ c ∈ Lib.itoa m, c ≠ d := fun m hm1 hm2 d hd c hc => by
      have := itoa_all m hm1 hm2 c hc
      exact ne_of_nat (by omega)
    have e : Lib.itoa p.lo ++ 58 :: (Lib.itoa p.hi ++ [93]) = (Lib.itoa p.lo ++ 58 :: Lib.itoa p.hi) ++ [93] := by simp
    have e1 : splitB 91 [] (tx p.text ++ 91 :: (Lib.itoa p.lo ++ 58 :: (Lib.itoa p.hi ++ [93]))) = [tx p.text, Lib.itoa p.lo ++ 58 :: (Lib.itoa p.hi ++ [93])] := by
      rw [splitB_one _ _ _ (fun c hc => ne_of_nat (by have := word_all hw c hc; show c.toNat ≠ 91; omega)), splitB_none]
      · simp
      · intro c hc
        simp only [List.mem_cons, List.mem_append, List.not_mem_nil, or_false] at hc
        rcases hc with hc | rfl | hc | rfl
        · exact hd _ (by omega) (by omega) 91 (.inr (by decide)) c hc
        · decide
        · exact hd _ (by omega) (by omega) 91 (.inr (by decide)) c hc
        · decide
    have e2 : splitB 58 [] (Lib.itoa p.lo ++ 58 :: Lib.itoa p.hi) = [Lib.itoa p.lo, Lib.itoa p.hi] := by
      rw [splitB_one _ _ _ (hd _ (by omega) (by omega) 58 (.inr (by decide))), splitB_none _ _ (hd _ (by omega) (by omega) 58 (.inr (by decide)))]
      simp
    rw [if_neg (by simp), if_neg (by simp), List.drop_succ_cons, List.drop_zero, e1, if_neg (by simp)]
    simp only [List.getD_cons_zero, List.getD_cons_succ]
    rw [e, List.dropLast_concat, e2]
    simp only [List.getD_cons_zero, List.getD_cons_succ, List.length_cons, List.length_nil, if_true]
    rw [bytes_tx, num_itoa _ (by omega) (by omega), num_itoa _ (by omega) (by omega)]
    exact (prt_ext k rfl rfl rfl).symm
theorem partS_map {l : List Prt} (h : ∀ p ∈ l, partOk p = true) : (l.map partT).map partS = l := by
  induction l with
  | nil => rfl
  | cons p l ih => rw [List.map_cons, List.map_cons, partS_back (h p (by simp)), ih (fun q hq => h q (by simp [hq]))]
/-- What a kind has: letters. -/
def takesT (k : Int) : List UInt8 :=
  if k = 1 then [110, 112] else if k = 2 then [110, 116] else if k = 3 then [78, 112] else if k = 4 then [78, 116, 110, 111] else if k = 5 then [112] else if k = 6 then [110, 116, 111] else if k = 7 then [111] else if k = 8 then [78] else []
/-- One letter's word. -/
def fillS (s : Stm) (c : UInt8) (w : List UInt8) : Stm :=
  if c = 110 then { s with name := bytesOf w }
  else if c = 116 then { s with text := if w = [46] ∧ s.kind = 6 then noText else bytesOf w }
  else if c = 78 then { s with num := numS w }
  else if c = 111 then { s with dest := numS w }
  else s
/-- All letters' words. -/
def fillAll : Stm → List UInt8 → List (List UInt8) → Stm
  | s, [], _ => s
  | s, _ :: _, [] => s
  | s, c :: cs, w :: ws => if c = 112 then fillAll { s with parts := s.parts ++ (w :: ws).map partS } cs ws else fillAll (fillS s c w) cs ws
def stmK (k : Int) : Stm := ⟨k, noText, noText, 0, 0, []⟩
def kindW (f : List UInt8) : Int :=
  if f = wSet then 1 else if f = wSecret then 2 else if f = wSay then 3 else if f = wWait then 4 else if f = wLog then 5 else if f = wIf then 6 else if f = wGoto then 7 else if f = wEnd then 8 else 0
/-- A statement read from its words. -/
def readS (ws : List (List UInt8)) : Stm := fillAll (stmK (kindW (ws.getD 0 []))) (takesT (kindW (ws.getD 0 []))) (ws.drop 1)
theorem fill_parts (s : Stm) {l : List Prt} (h : ∀ p ∈ l, partOk p = true) (hs : s.parts = []) : fillAll s [112] (l.map partT) = { s with parts := l } := by
  cases l with
  | nil => cases s; simp_all [fillAll]
  | cons p l =>
    have e := partS_map h
    rw [List.map_cons] at e ⊢
    rw [fillAll, if_pos rfl, e, hs, fillAll]
    rfl
theorem words_backS {x : Stm} (h : stmtOk x = true) : readS (wordsT x) = x := by
  rcases stmt_cases h with ⟨k, h1, h2, h3, h4, h5⟩ | ⟨k, h1, h2, h3, h4, h5⟩ | ⟨k, h1, h2, h3, h4, h5⟩ | ⟨k, h1, h2, h3, h4, h5, h6⟩ | ⟨k, h1, h2, h3, h4, h5⟩ | ⟨k, h1, h2, h3, h4, h5, h6, h7⟩ | ⟨k, h1, h2, h3, h4, h5⟩ | ⟨k, h1, h2, h3, h4, h5⟩
  · have e : wordsT x = wSet :: tx x.name :: x.parts.map partT := by unfold wordsT; rw [if_pos k]
    rw [e]
    show fillAll ⟨1, bytesOf (tx x.name), noText, 0, 0, []⟩ [112] (x.parts.map partT) = x
    rw [fill_parts _ (parts_all h2).2 rfl, bytes_tx]
    exact (stm_ext k rfl h3 h4 h5 rfl).symm
  · have e : wordsT x = [wSecret, tx x.name, tx x.text] := by unfold wordsT; rw [if_neg (by omega), if_pos k]
    rw [e]
    show (⟨2, bytesOf (tx x.name), if tx x.text = [46] ∧ (2 : Int) = 6 then noText else bytesOf (tx x.text), 0, 0, []⟩ : Stm) = x
    rw [if_neg (by rintro ⟨_, e⟩; revert e; decide), bytes_tx, bytes_tx]
    exact (stm_ext k rfl rfl h3 h4 h5).symm
  · have e : wordsT x = wSay :: Lib.itoa x.num :: x.parts.map partT := by unfold wordsT; rw [if_neg (by omega), if_neg (by omega), if_pos k]
    rw [e]
    show fillAll ⟨3, noText, noText, numS (Lib.itoa x.num), 0, []⟩ [112] (x.parts.map partT) = x
    rw [fill_parts _ (parts_all h2).2 rfl, num_itoa _ h1.1 (by omega)]
    exact (stm_ext k h3 h4 rfl h5 rfl).symm
  · have e : wordsT x = [wWait, Lib.itoa x.num, tx x.text, tx x.name, Lib.itoa x.dest] := by unfold wordsT; rw [if_neg (by omega), if_neg (by omega), if_neg (by omega), if_pos k]
    rw [e]
    show (⟨4, bytesOf (tx x.name), if tx x.text = [46] ∧ (4 : Int) = 6 then noText else bytesOf (tx x.text), numS (Lib.itoa x.num), numS (Lib.itoa x.dest), []⟩ : Stm) = x
    rw [if_neg (by rintro ⟨_, e⟩; revert e; decide), bytes_tx, bytes_tx, num_itoa _ h1.1 (by omega), num_itoa _ h5.1 (by omega)]
    exact (stm_ext k rfl rfl rfl rfl h6).symm
  · have e : wordsT x = wLog :: x.parts.map partT := by unfold wordsT; rw [if_neg (by omega), if_neg (by omega), if_neg (by omega), if_neg (by omega), if_pos k]
    rw [e]
    show fillAll ⟨5, noText, noText, 0, 0, []⟩ [112] (x.parts.map partT) = x
    rw [fill_parts _ (parts_all h1).2 rfl]
    exact (stm_ext k h2 h3 h4 h5 rfl).symm
  · have e : wordsT x = [wIf, tx x.name, if tx x.text = [] then [46] else tx x.text, Lib.itoa x.dest] := by unfold wordsT; rw [if_neg (by omega), if_neg (by omega), if_neg (by omega), if_neg (by omega), if_neg (by omega), if_pos k]
    rw [e]
    show (⟨6, bytesOf (tx x.name), if (if tx x.text = [] then [46] else tx x.text) = [46] ∧ (6 : Int) = 6 then noText else bytesOf (if tx x.text = [] then [46] else tx x.text), 0, numS (Lib.itoa x.dest), []⟩ : Stm) = x
    rw [bytes_tx, num_itoa _ h5.1 (by omega)]
    by_cases ht : tx x.text = []
    · rw [if_pos ht, if_pos ⟨rfl, rfl⟩]
      exact (stm_ext k rfl (tx_inj (by rw [ht]; rfl)) h6 rfl h7).symm
    · rw [if_neg ht, if_neg (fun e => h4 e.1), bytes_tx]
      exact (stm_ext k rfl rfl h6 rfl h7).symm
  · have e : wordsT x = [wGoto, Lib.itoa x.dest] := by unfold wordsT; rw [if_neg (by omega), if_neg (by omega), if_neg (by omega), if_neg (by omega), if_neg (by omega), if_neg (by omega), if_pos k]
    rw [e]
    show (⟨7, noText, noText, 0, numS (Lib.itoa x.dest), []⟩ : Stm) = x
    rw [num_itoa _ h1.1 (by omega)]
    exact (stm_ext k h2 h3 h4 rfl h5).symm
  · have e : wordsT x = [wEnd, Lib.itoa x.num] := by unfold wordsT; rw [if_neg (by omega), if_neg (by omega), if_neg (by omega), if_neg (by omega), if_neg (by omega), if_neg (by omega), if_neg (by omega), if_pos k]
    rw [e]
    show (⟨8, noText, noText, numS (Lib.itoa x.num), 0, []⟩ : Stm) = x
    rw [num_itoa _ h1.1 (by omega)]
    exact (stm_ext k h2 h3 rfl h4 h5).symm
theorem text_backS {x : Stm} (h : stmtOk x = true) : readS (splitW false [] (stmtT x)) = x := by
  obtain ⟨h1, h2, _⟩ := words_back h
  unfold stmtT
  rw [split_join _ h1 h2, words_backS h]
/-- What the model reads is what the program reads. -/
theorem readS_same (l : List UInt8) : (if stmtOk (readS (splitW false [] l)) = true ∧ stmtT (readS (splitW false [] l)) = l then (readS (splitW false [] l), (0 : Int)) else (stm0, 3)) = readStm l := by
  by_cases h : stmtOk (readS (splitW false [] l)) = true ∧ stmtT (readS (splitW false [] l)) = l
  · rw [if_pos h, readStm_yes h.1 h.2]
  · rw [if_neg h]
    refine (readStm_no fun x hx e => h ?_).symm
    have hb := text_backS hx
    rw [e] at hb
    rw [hb]
    exact ⟨hx, e⟩
end Go.Proofs.YtbadpmghlclfkaaDoor
