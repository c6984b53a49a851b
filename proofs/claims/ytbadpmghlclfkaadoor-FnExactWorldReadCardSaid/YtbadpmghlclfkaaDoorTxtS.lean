/- The texts of statements as plain lists: the words, split again, read again. A right statement is read again from its text, as the program reads it. A right statement is read again from its text, as the model reads it. -/
import Derived.Test.YtbadpmghlclfkaaDoorStmM
import Derived.Test.YtbadpmghlclfkaaDoorBase
import Derived.Lib.Join
import Derived.Lib.ParseIntB
import Derived.Lib.ItoaNum
import Derived.Lib.IndexMore
import Derived.Lib.TrimByte
import Derived.Lib.Strings
namespace Go.Proofs.YtbadpmghlclfkaaDoor

def wSet : List UInt8 := [115, 101, 116]
def wSecret : List UInt8 := [115, 101, 99, 114, 101, 116]
def wSay : List UInt8 := [115, 97, 121]
def wWait : List UInt8 := [119, 97, 105, 116]
def wLog : List UInt8 := [108, 111, 103]
def wIf : List UInt8 := [105, 102]
def wGoto : List UInt8 := [103, 111, 116, 111]
def wEnd : List UInt8 := [101, 110, 100]
def tx (x : ByteArray) : List UInt8 := x.data.toList
/-- The word of a part. -/
def partT (p : Prt) : List UInt8 :=
  if p.kind = 1 then 34 :: (tx p.text ++ [34])
  else if p.kind = 3 then 36 :: (tx p.text ++ 91 :: (Lib.itoa p.lo ++ 58 :: (Lib.itoa p.hi ++ [93])))
  else 36 :: tx p.text
/-- The words of a statement. -/
def wordsT (x : Stm) : List (List UInt8) :=
  if x.kind = 1 then wSet :: tx x.name :: x.parts.map partT
  else if x.kind = 2 then [wSecret, tx x.name, tx x.text]
  else if x.kind = 3 then wSay :: Lib.itoa x.num :: x.parts.map partT
  else if x.kind = 4 then [wWait, Lib.itoa x.num, tx x.text, tx x.name, Lib.itoa x.dest]
  else if x.kind = 5 then wLog :: x.parts.map partT
  else if x.kind = 6 then [wIf, tx x.name, if tx x.text = [] then [46] else tx x.text, Lib.itoa x.dest]
  else if x.kind = 7 then [wGoto, Lib.itoa x.dest]
  else if x.kind = 8 then [wEnd, Lib.itoa x.num]
  else []
def stmtT (x : Stm) : List UInt8 := Lib.join (wordsT x) [32]
/-- The words of a line: what stands between blanks, but for those in quotes. -/
def splitW : Bool → List UInt8 → List UInt8 → List (List UInt8)
  | _, cur, [] => [cur]
  | q, cur, c :: l => if c = 32 ∧ q = false then cur :: splitW false [] l else splitW (if c = 34 then !q else q) (cur ++ [c]) l
/-- A word that ends where it ends. -/
def Whole (w : List UInt8) : Prop := ∀ cur, (∀ rest, splitW false cur (w ++ 32 :: rest) = (cur ++ w) :: splitW false [] rest) ∧ splitW false cur w = [cur ++ w]
theorem split_clean (q : Bool) (w : List UInt8) : ∀ (cur rest : List UInt8), (∀ c ∈ w, c ≠ 34 ∧ (q = false → c ≠ 32)) → splitW q cur (w ++ rest) = splitW q (cur ++ w) rest := by
  induction w with
  | nil => intro cur rest _; simp
  | cons c w ih =>
    intro cur rest h
    have h0 := h c (by simp)
    rw [List.cons_append, splitW, if_neg (by rintro ⟨e1, e2⟩; exact h0.2 e2 e1), if_neg h0.1, ih _ _ (fun d hd => h d (by simp [hd])), List.append_assoc]
    rfl
theorem whole_clean {w : List UInt8} (h : ∀ c ∈ w, c ≠ 34 ∧ c ≠ 32) : Whole w := by
  intro cur
  refine ⟨fun rest => ?_, ?_⟩
  · rw [split_clean false w _ _ (fun c hc => ⟨(h c hc).1, fun _ => (h c hc).2⟩), splitW, if_pos ⟨rfl, rfl⟩]
  · have := split_clean false w cur [] (fun c hc => ⟨(h c hc).1, fun _ => (h c hc).2⟩)
    rw [List.append_nil] at this
    rw [this, splitW]
theorem whole_quote {t : List UInt8} (h : ∀ c ∈ t, c ≠ 34) : Whole (34 :: (t ++ [34])) := by
  intro cur
  have h1 : ∀ rest, splitW false cur (34 :: (t ++ [34]) ++ rest) = splitW false (cur ++ 34 :: (t ++ [34])) rest := by
    intro rest
    rw [List.cons_append, splitW, if_neg (by decide), if_pos rfl, List.append_assoc, Bool.not_false, split_clean true t _ _ (fun c hc => ⟨h c hc, fun e => by cases e⟩), List.cons_append, List.nil_append, splitW, if_neg (by decide), if_pos rfl, Bool.not_true]
    congr 1
    simp
  refine ⟨fun rest => ?_, ?_⟩
  · rw [h1, splitW, if_pos ⟨rfl, rfl⟩]
  · have := h1 []
    rw [List.append_nil] at this
    rw [this, splitW]
theorem join_cons2 (a b : List UInt8) (l : List (List UInt8)) : Lib.join (a :: b :: l) [32] = a ++ 32 :: Lib.join (b :: l) [32] := by
  unfold Lib.join
  simp [List.intercalate, List.intersperse]
theorem join_one (a : List UInt8) : Lib.join [a] [32] = a := by simp [Lib.join, List.intercalate, List.intersperse]
theorem split_join : ∀ (ws : List (List UInt8)), ws ≠ [] → (∀ w ∈ ws, Whole w) → splitW false [] (Lib.join ws [32]) = ws
  | [], h, _ => absurd rfl h
  | [a], _, hw => by rw [join_one, (hw a (by simp) []).2]; simp
  | a :: b :: l, _, hw => by
    rw [join_cons2, (hw a (by simp) []).1, split_join (b :: l) (by simp) (fun w h => hw w (by simp at h ⊢; right; exact h))]
    simp
/-- The number of a text; what is none comes as some other. -/
def readD (l : List UInt8) : Int := match Lib.parseIntB 64 l with
  | .ok v => v
  | .range => Lib.intSat 64 l
  | _ => 0
def noText : ByteArray := ⟨#[]⟩
/-- A part read from its word. -/
def readP (w : List UInt8) : Prt :=
  if Lib.hasPrefix w [36] = true then
    if (Lib.cut (w.drop 1) [91]).2.2 = true then
      ⟨3, bytesOf (Lib.cut (w.drop 1) [91]).1, readD (Lib.cut (Lib.trimSuffix (Lib.cut (w.drop 1) [91]).2.1 [93]) [58]).1, readD (Lib.cut (Lib.trimSuffix (Lib.cut (w.drop 1) [91]).2.1 [93]) [58]).2.1⟩
    else ⟨2, bytesOf (w.drop 1), 0, 0⟩
  else ⟨1, bytesOf (Lib.trimB w 34), 0, 0⟩
def stm0 : Stm := ⟨0, noText, noText, 0, 0, []⟩
/-- A statement read from its words. -/
def readF (f : List UInt8) (r : List (List UInt8)) : Stm :=
  if f = wSet ∧ 0 < r.length then ⟨1, bytesOf (r.getD 0 []), noText, 0, 0, (r.drop 1).map readP⟩
  else if f = wSecret ∧ r.length = 2 then ⟨2, bytesOf (r.getD 0 []), bytesOf (r.getD 1 []), 0, 0, []⟩
  else if f = wSay ∧ 0 < r.length then ⟨3, noText, noText, readD (r.getD 0 []), 0, (r.drop 1).map readP⟩
  else if f = wWait ∧ r.length = 4 then ⟨4, bytesOf (r.getD 2 []), bytesOf (r.getD 1 []), readD (r.getD 0 []), readD (r.getD 3 []), []⟩
  else if f = wLog then ⟨5, noText, noText, 0, 0, r.map readP⟩
  else if f = wIf ∧ r.length = 3 ∧ r.getD 1 [] = [46] then ⟨6, bytesOf (r.getD 0 []), noText, 0, readD (r.getD 2 []), []⟩
  else if f = wIf ∧ r.length = 3 then ⟨6, bytesOf (r.getD 0 []), bytesOf (r.getD 1 []), 0, readD (r.getD 2 []), []⟩
  else if f = wGoto ∧ r.length = 1 then ⟨7, noText, noText, 0, readD (r.getD 0 []), []⟩
  else if f = wEnd ∧ r.length = 1 then ⟨8, noText, noText, readD (r.getD 0 []), 0, []⟩
  else stm0
def readK : List (List UInt8) → Stm
  | [] => stm0
  | f :: r => readF f r
end Go.Proofs.YtbadpmghlclfkaaDoor
namespace Go.Proofs.YtbadpmghlclfkaaDoor

theorem bytes_tx (x : ByteArray) : bytesOf (tx x) = x := by unfold bytesOf tx; cases x; simp
theorem tx_bytes (l : List UInt8) : tx (bytesOf l) = l := by simp [bytesOf, tx]
theorem tx_inj {x y : ByteArray} (h : tx x = tx y) : x = y := by rw [← bytes_tx x, h, bytes_tx]
/-- The digits of a number below 1000, told at once. -/
def digs3 (n : Nat) : List UInt8 :=
  if n < 10 then [UInt8.ofNat (48 + n)] else if n < 100 then [UInt8.ofNat (48 + n / 10), UInt8.ofNat (48 + n % 10)]
  else [UInt8.ofNat (48 + n / 10 / 10), UInt8.ofNat (48 + n / 10 % 10), UInt8.ofNat (48 + n % 10)]
theorem dec_digs (n : Nat) (h : n < 1000) : Lib.decDigits n = digs3 n := by
  unfold digs3
  by_cases h1 : n < 10
  · rw [Lib.decDigits, dif_pos h1, if_pos h1]
  · rw [Lib.decDigits, dif_neg h1, if_neg h1]
    by_cases h2 : n < 100
    · rw [Lib.decDigits, dif_pos (by omega), if_pos h2]; rfl
    · rw [Lib.decDigits, dif_neg (by omega), Lib.decDigits, dif_pos (by omega), if_neg h2]; rfl
theorem itoa_digs (n : Int) (h0 : 0 ≤ n) (h1 : n ≤ 200) : Lib.itoa n = digs3 n.toNat := by
  unfold Lib.itoa
  rw [if_neg (by omega), dec_digs _ (by omega)]
def digitC (c : UInt8) : Bool := decide (48 ≤ c.toNat) && decide (c.toNat ≤ 57)
theorem digs3_all : ∀ n : Fin 201, (digs3 n.1).all digitC = true ∧ digs3 n.1 ≠ [] ∧ readD (digs3 n.1) = (n.1 : Int) := by decide +kernel
theorem itoa_all (n : Int) (h0 : 0 ≤ n) (h1 : n ≤ 200) : ∀ c ∈ Lib.itoa n, 48 ≤ c.toNat ∧ c.toNat ≤ 57 := by
  intro c hc
  rw [itoa_digs n h0 h1] at hc
  have := List.all_eq_true.1 (digs3_all ⟨n.toNat, by omega⟩).1 c hc
  simpa [digitC] using this
theorem read_itoa (n : Int) (h0 : 0 ≤ n) (h1 : n ≤ 200) : readD (Lib.itoa n) = n := by
  rw [itoa_digs n h0 h1, (digs3_all ⟨n.toNat, by omega⟩).2.2]
  simp; omega
theorem itoa_ne (n : Int) (h0 : 0 ≤ n) (h1 : n ≤ 200) : Lib.itoa n ≠ [] := by
  rw [itoa_digs n h0 h1]; exact (digs3_all ⟨n.toNat, by omega⟩).2.1
theorem index_none (s : UInt8) : ∀ (a : List UInt8), (∀ c ∈ a, c ≠ s) → Lib.index a [s] = -1
  | [], _ => by simp [Lib.index]
  | b :: l, h => by
    have hb : s ≠ b := fun e => h b (by simp) e.symm
    rw [Lib.index, if_neg (by simp [List.isPrefixOf, hb]), index_none s l (fun c hc => h c (by simp [hc]))]; rfl
theorem index_at (s : UInt8) (b : List UInt8) : ∀ (a : List UInt8), (∀ c ∈ a, c ≠ s) → Lib.index (a ++ s :: b) [s] = (a.length : Int)
  | [], _ => by simp [Lib.index, List.isPrefixOf]
  | d :: l, h => by
    have hb : s ≠ d := fun e => h d (by simp) e.symm
    rw [List.cons_append, Lib.index, if_neg (by simp [List.isPrefixOf, hb]), index_at s b l (fun c hc => h c (by simp [hc])), if_neg (by simp)]
    simp
theorem cut_none {s : UInt8} {a : List UInt8} (h : ∀ c ∈ a, c ≠ s) : Lib.cut a [s] = (a, [], false) := by
  unfold Lib.cut
  rw [index_none s a h, if_neg (by decide)]
theorem cut_at {s : UInt8} {a b : List UInt8} (h : ∀ c ∈ a, c ≠ s) : Lib.cut (a ++ s :: b) [s] = (a, b, true) := by
  unfold Lib.cut
  rw [index_at s b a h, if_pos (by omega)]
  simp
theorem trim_quote {t : List UInt8} (h : ∀ c ∈ t, c ≠ 34) : Lib.trimB (34 :: (t ++ [34])) 34 = t := by
  unfold Lib.trimB Lib.trimLeftB Lib.trimRightB
  have e1 : (34 :: (t ++ [34]) : List UInt8).reverse = 34 :: (t.reverse ++ [34]) := by simp
  rw [e1, List.dropWhile_cons, if_pos (by decide)]
  cases t with
  | nil => rfl
  | cons c t =>
    have e2 : ((c :: t).reverse ++ [34]).dropWhile (· == 34) = (c :: t).reverse ++ [34] := by
      cases hr : (c :: t).reverse with
      | nil => simp at hr
      | cons d u =>
        have hd : d ∈ c :: t := by
          have : d ∈ (c :: t).reverse := by rw [hr]; simp
          exact List.mem_reverse.1 this
        rw [List.cons_append, List.dropWhile_cons, if_neg (by simpa using h d hd)]
    rw [e2]
    have e3 : ((c :: t).reverse ++ [34]).reverse = 34 :: c :: t := by simp
    rw [e3, List.dropWhile_cons, if_pos (by decide), List.dropWhile_cons, if_neg (by simpa using h c (by simp))]
theorem suffix_cut (a : List UInt8) (s : UInt8) : Lib.trimSuffix (a ++ [s]) [s] = a := by
  unfold Lib.trimSuffix Lib.hasSuffix
  have e : [s].isSuffixOf (a ++ [s]) = true := by rw [List.isSuffixOf_iff_suffix]; exact List.suffix_append a [s]
  rw [if_pos e]
  simp
theorem word_all {l : List UInt8} (h : wordB l = true) : ∀ c ∈ l, 97 ≤ c.toNat ∧ c.toNat ≤ 122 := (word_parts h).2.2
theorem plain_all {lo : Nat} {l : List UInt8} (h : plainB lo l = true) : ∀ c ∈ l, lo ≤ c.toNat ∧ c.toNat ≤ 126 ∧ c.toNat ≠ 34 := by
  intro c hc
  have := List.all_eq_true.1 h c hc
  simpa [plainC] using this
/-- What a right part is. -/
theorem part_cases {p : Prt} (h : partOk p = true) : (p.kind = 1 ∧ p.text.size ≤ 30 ∧ plainB 32 (tx p.text) = true ∧ p.lo = 0 ∧ p.hi = 0) ∨ (p.kind = 2 ∧ wordB (tx p.text) = true ∧ p.lo = 0 ∧ p.hi = 0) ∨ (p.kind = 3 ∧ wordB (tx p.text) = true ∧ 0 ≤ p.lo ∧ p.lo ≤ p.hi ∧ p.hi ≤ 200) := by
  unfold partOk at h
  by_cases h1 : p.kind = 1
  · rw [if_pos h1] at h
    simp only [Bool.and_eq_true, decide_eq_true_eq] at h
    exact .inl ⟨h1, h.1, h.2.1, h.2.2.1, h.2.2.2⟩
  · rw [if_neg h1] at h
    by_cases h2 : p.kind = 2
    · rw [if_pos h2] at h
      simp only [Bool.and_eq_true, decide_eq_true_eq] at h
      exact .inr (.inl ⟨h2, h.1, h.2.1, h.2.2⟩)
    · rw [if_neg h2] at h
      by_cases h3 : p.kind = 3
      · rw [if_pos h3] at h
        simp only [Bool.and_eq_true, decide_eq_true_eq] at h
        exact .inr (.inr ⟨h3, h.1, h.2.1, h.2.2.1, h.2.2.2⟩)
      · rw [if_neg h3] at h; cases h
theorem ne_of_nat {c d : UInt8} (h : c.toNat ≠ d.toNat) : c ≠ d := fun e => h (by rw [e])
theorem part_whole {p : Prt} (h : partOk p = true) : Whole (partT p) := by
  rcases part_cases h with ⟨k, _, hp, _, _⟩ | ⟨k, hw, _, _⟩ | ⟨k, hw, h0, h1, h2⟩
  · unfold partT
    rw [if_pos k]
    exact whole_quote fun c hc => ne_of_nat (by have := plain_all hp c hc; show c.toNat ≠ 34; omega)
  · unfold partT
    rw [if_neg (by omega), if_neg (by omega)]
    refine whole_clean fun c hc => ?_
    rw [List.mem_cons] at hc
    rcases hc with rfl | hc
    · decide
    · have := word_all hw c hc
      exact ⟨ne_of_nat (by show c.toNat ≠ 34; omega), ne_of_nat (by show c.toNat ≠ 32; omega)⟩
  · unfold partT
    rw [if_neg (by omega), if_pos k]
    refine whole_clean fun c hc => ?_
    simp only [List.mem_cons, List.mem_append, List.not_mem_nil, or_false] at hc
    have hd : ∀ m : Int, 0 ≤ m → m ≤ 200 → c ∈ Lib.itoa m → c ≠ 34 ∧ c ≠ 32 := fun m hm1 hm2 hm3 => by
      have := itoa_all m hm1 hm2 c hm3
      exact ⟨ne_of_nat (by show c.toNat ≠ 34; omega), ne_of_nat (by show c.toNat ≠ 32; omega)⟩
    rcases hc with rfl | hc | rfl | hc | rfl | hc | rfl
    · decide
    · have := word_all hw c hc
      exact ⟨ne_of_nat (by show c.toNat ≠ 34; omega), ne_of_nat (by show c.toNat ≠ 32; omega)⟩
    · decide
    · exact hd _ (by omega) (by omega) hc
    · decide
    · exact hd _ (by omega) (by omega) hc
    · decide
theorem prt_ext {p : Prt} {k : Int} {t : ByteArray} {a b : Int} (h1 : p.kind = k) (h2 : p.text = t) (h3 : p.lo = a) (h4 : p.hi = b) : p = ⟨k, t, a, b⟩ := by cases p; simp_all
theorem partT1 {p : Prt} (k : p.kind = 1) : partT p = 34 :: (tx p.text ++ [34]) := by unfold partT; rw [if_pos k]
theorem partT2 {p : Prt} (k : p.kind = 2) : partT p = 36 :: tx p.text := by unfold partT; rw [if_neg (by omega), if_neg (by omega)]
theorem partT3 {p : Prt} (k : p.kind = 3) : partT p = 36 :: (tx p.text ++ 91 :: (Lib.itoa p.lo ++ 58 :: (Lib.itoa p.hi ++ [93]))) := by unfold partT; rw [if_neg (by omega), if_pos k]
theorem prefix_no (l : List UInt8) : ¬ Lib.hasPrefix (34 :: l) [36] = true := by simp [Lib.hasPrefix, List.isPrefixOf]
theorem prefix_yes (l : List UInt8) : Lib.hasPrefix (36 :: l) [36] = true := by simp [Lib.hasPrefix, List.isPrefixOf]
theorem readP_back {p : Prt} (h : partOk p = true) : readP (partT p) = p := by
  rcases part_cases h with ⟨k, _, hp, h3, h4⟩ | ⟨k, hw, h3, h4⟩ | ⟨k, hw, h0, h1, h2⟩
  · rw [partT1 k]; unfold readP
    rw [if_neg (prefix_no _), trim_quote (fun c hc => ne_of_nat (by have := plain_all hp c hc; show c.toNat ≠ 34; omega)), bytes_tx]
    exact (prt_ext k rfl h3 h4).symm
  · rw [partT2 k]; unfold readP
    rw [if_pos (prefix_yes _), List.drop_succ_cons, List.drop_zero, cut_none (fun c hc => ne_of_nat (by have := word_all hw c hc; show c.toNat ≠ 91; omega)), if_neg (fun e => by cases e), bytes_tx]
    exact (prt_ext k rfl h3 h4).symm
  · rw [partT3 k]; unfold readP
    rw [if_pos (prefix_yes _), List.drop_succ_cons, List.drop_zero, cut_at (fun c hc => ne_of_nat (by have := word_all hw c hc; show c.toNat ≠ 91; omega)), if_pos rfl]
    have e : Lib.itoa p.lo ++ 58 :: (Lib.itoa p.hi ++ [93]) = (Lib.itoa p.lo ++ 58 :: Lib.itoa p.hi) ++ [93] := by simp
    simp only []
    rw [e, suffix_cut, cut_at (fun c hc => ne_of_nat (by have := itoa_all p.lo (by omega) (by omega) c hc; show c.toNat ≠ 58; omega)), bytes_tx, read_itoa _ (by omega) (by omega), read_itoa _ (by omega) (by omega)]
    exact (prt_ext k rfl rfl rfl).symm
theorem readP_map {l : List Prt} (h : ∀ p ∈ l, partOk p = true) : (l.map partT).map readP = l := by
  induction l with
  | nil => rfl
  | cons p l ih => rw [List.map_cons, List.map_cons, readP_back (h p (by simp)), ih (fun q hq => h q (by simp [hq]))]
theorem parts_all {l : List Prt} (h : partsB l = true) : l.length ≤ 6 ∧ ∀ p ∈ l, partOk p = true := by
  simp only [partsB, Bool.and_eq_true, decide_eq_true_eq, List.all_eq_true] at h
  exact h
theorem rng_parts {n lo hi : Int} (h : rng n lo hi = true) : lo ≤ n ∧ n ≤ hi := of_decide_eq_true h
theorem nameless_of {x : Stm} (h : nameless x = true) : x.name = noText := tx_inj (by rw [show tx x.name = [] from of_decide_eq_true h]; rfl)
theorem textless_of {x : Stm} (h : textless x = true) : x.text = noText := tx_inj (by rw [show tx x.text = [] from of_decide_eq_true h]; rfl)
theorem numless_of {x : Stm} (h : numless x = true) : x.num = 0 := of_decide_eq_true h
theorem destless_of {x : Stm} (h : destless x = true) : x.dest = 0 := of_decide_eq_true h
theorem partless_of {x : Stm} (h : partless x = true) : x.parts = [] := of_decide_eq_true h
/-- What a right statement is, by its kind. -/
theorem stmt_cases {x : Stm} (h : stmtOk x = true) :
    (x.kind = 1 ∧ wordB (tx x.name) = true ∧ partsB x.parts = true ∧ x.text = noText ∧ x.num = 0 ∧ x.dest = 0) ∨
    (x.kind = 2 ∧ wordB (tx x.name) = true ∧ wordB (tx x.text) = true ∧ x.num = 0 ∧ x.dest = 0 ∧ x.parts = []) ∨
    (x.kind = 3 ∧ (0 ≤ x.num ∧ x.num ≤ 2) ∧ partsB x.parts = true ∧ x.name = noText ∧ x.text = noText ∧ x.dest = 0) ∨
    (x.kind = 4 ∧ (0 ≤ x.num ∧ x.num ≤ 2) ∧ globOk (tx x.text) = true ∧ plainB 33 (tx x.text) = true ∧ wordB (tx x.name) = true ∧ (0 ≤ x.dest ∧ x.dest ≤ 40) ∧ x.parts = []) ∨
    (x.kind = 5 ∧ partsB x.parts = true ∧ x.name = noText ∧ x.text = noText ∧ x.num = 0 ∧ x.dest = 0) ∨
    (x.kind = 6 ∧ wordB (tx x.name) = true ∧ x.text.size ≤ 30 ∧ plainB 33 (tx x.text) = true ∧ ¬ tx x.text = [46] ∧ (0 ≤ x.dest ∧ x.dest ≤ 40) ∧ x.num = 0 ∧ x.parts = []) ∨
    (x.kind = 7 ∧ (0 ≤ x.dest ∧ x.dest ≤ 40) ∧ x.name = noText ∧ x.text = noText ∧ x.num = 0 ∧ x.parts = []) ∨
    (x.kind = 8 ∧ (0 ≤ x.num ∧ x.num ≤ 99) ∧ x.name = noText ∧ x.text = noText ∧ x.dest = 0 ∧ x.parts = []) := by
  unfold stmtOk rightB restB at h
  by_cases k1 : x.kind = 1
  · rw [if_pos k1, if_pos k1] at h
    simp only [Bool.and_eq_true] at h
    exact .inl ⟨k1, h.1.1, h.1.2, textless_of h.2.1, numless_of h.2.2.1, destless_of h.2.2.2⟩
  rw [if_neg k1, if_neg k1] at h
  by_cases k2 : x.kind = 2
  · rw [if_pos k2, if_pos k2] at h
    simp only [Bool.and_eq_true] at h
    exact .inr (.inl ⟨k2, h.1.1, h.1.2, numless_of h.2.1, destless_of h.2.2.1, partless_of h.2.2.2⟩)
  rw [if_neg k2, if_neg k2] at h
  by_cases k3 : x.kind = 3
  · rw [if_pos k3, if_pos k3] at h
    simp only [Bool.and_eq_true] at h
    exact .inr (.inr (.inl ⟨k3, rng_parts h.1.1, h.1.2, nameless_of h.2.1, textless_of h.2.2.1, destless_of h.2.2.2⟩))
  rw [if_neg k3, if_neg k3] at h
  by_cases k4 : x.kind = 4
  · rw [if_pos k4, if_pos k4] at h
    simp only [Bool.and_eq_true] at h
    exact .inr (.inr (.inr (.inl ⟨k4, rng_parts h.1.1, h.1.2.1, h.1.2.2.1, h.1.2.2.2.1, rng_parts h.1.2.2.2.2, partless_of h.2⟩)))
  rw [if_neg k4, if_neg k4] at h
  by_cases k5 : x.kind = 5
  · rw [if_pos k5, if_pos k5] at h
    simp only [Bool.and_eq_true] at h
    exact .inr (.inr (.inr (.inr (.inl ⟨k5, h.1, nameless_of h.2.1, textless_of h.2.2.1, numless_of h.2.2.2.1, destless_of h.2.2.2.2⟩))))
  rw [if_neg k5, if_neg k5] at h
  by_cases k6 : x.kind = 6
  · rw [if_pos k6, if_pos k6] at h
    simp only [Bool.and_eq_true, decide_eq_true_eq, Bool.not_eq_true', decide_eq_false_iff_not] at h
    exact .inr (.inr (.inr (.inr (.inr (.inl ⟨k6, h.1.1, h.1.2.1, h.1.2.2.1, h.1.2.2.2.1, rng_parts h.1.2.2.2.2, numless_of h.2.1, partless_of h.2.2⟩)))))
  rw [if_neg k6, if_neg k6] at h
  by_cases k7 : x.kind = 7
  · rw [if_pos k7, if_pos k7] at h
    simp only [Bool.and_eq_true] at h
    exact .inr (.inr (.inr (.inr (.inr (.inr (.inl ⟨k7, rng_parts h.1, nameless_of h.2.1, textless_of h.2.2.1, numless_of h.2.2.2.1, partless_of h.2.2.2.2⟩))))))
  rw [if_neg k7, if_neg k7] at h
  by_cases k8 : x.kind = 8
  · rw [if_pos k8, if_pos k8] at h
    simp only [Bool.and_eq_true] at h
    exact .inr (.inr (.inr (.inr (.inr (.inr (.inr ⟨k8, rng_parts h.1, nameless_of h.2.1, textless_of h.2.2.1, destless_of h.2.2.2.1, partless_of h.2.2.2.2⟩))))))
  rw [if_neg k8] at h
  cases h
theorem word_whole {l : List UInt8} (h : wordB l = true) : Whole l := whole_clean fun c hc => by
  have := word_all h c hc
  exact ⟨ne_of_nat (by show c.toNat ≠ 34; omega), ne_of_nat (by show c.toNat ≠ 32; omega)⟩
theorem num_whole {n : Int} (h0 : 0 ≤ n) (h1 : n ≤ 200) : Whole (Lib.itoa n) := whole_clean fun c hc => by
  have := itoa_all n h0 h1 c hc
  exact ⟨ne_of_nat (by show c.toNat ≠ 34; omega), ne_of_nat (by show c.toNat ≠ 32; omega)⟩
theorem plain_whole {l : List UInt8} (h : plainB 33 l = true) : Whole l := whole_clean fun c hc => by
  have := plain_all h c hc
  exact ⟨ne_of_nat (by show c.toNat ≠ 34; omega), ne_of_nat (by show c.toNat ≠ 32; omega)⟩
theorem parts_whole {l : List Prt} (h : ∀ p ∈ l, partOk p = true) : ∀ w ∈ l.map partT, Whole w := by
  intro w hw
  obtain ⟨p, hp, rfl⟩ := List.mem_map.1 hw
  exact part_whole (h p hp)
theorem w1_whole : Whole wSet := whole_clean (by decide)
theorem w2_whole : Whole wSecret := whole_clean (by decide)
theorem w3_whole : Whole wSay := whole_clean (by decide)
theorem w4_whole : Whole wWait := whole_clean (by decide)
theorem w5_whole : Whole wLog := whole_clean (by decide)
theorem w6_whole : Whole wIf := whole_clean (by decide)
theorem w7_whole : Whole wGoto := whole_clean (by decide)
theorem w8_whole : Whole wEnd := whole_clean (by decide)
theorem all_cons {P : List UInt8 → Prop} {a : List UInt8} {l : List (List UInt8)} (h : P a) (t : ∀ w ∈ l, P w) : ∀ w ∈ a :: l, P w := by
  intro w hw
  rw [List.mem_cons] at hw
  rcases hw with rfl | hw
  · exact h
  · exact t w hw
theorem all_nil {P : List UInt8 → Prop} : ∀ w ∈ ([] : List (List UInt8)), P w := fun w hw => by cases hw
theorem stm_ext {x : Stm} {k : Int} {a b : ByteArray} {n d : Int} {l : List Prt} (h1 : x.kind = k) (h2 : x.name = a) (h3 : x.text = b) (h4 : x.num = n) (h5 : x.dest = d) (h6 : x.parts = l) : x = ⟨k, a, b, n, d, l⟩ := by cases x; simp_all
theorem dot_text (t : ByteArray) : Whole (if tx t = [] then [46] else tx t) ∨ ¬ plainB 33 (tx t) = true := by
  by_cases h : plainB 33 (tx t) = true
  · left
    split
    · exact whole_clean (by decide)
    · exact plain_whole h
  · exact .inr h
/-- The words of a right statement: each whole; read again they are the statement. -/
theorem words_back {x : Stm} (h : stmtOk x = true) : wordsT x ≠ [] ∧ (∀ w ∈ wordsT x, Whole w) ∧ readK (wordsT x) = x := by
  rcases stmt_cases h with ⟨k, h1, h2, h3, h4, h5⟩ | ⟨k, h1, h2, h3, h4, h5⟩ | ⟨k, h1, h2, h3, h4, h5⟩ | ⟨k, h1, h2, h3, h4, h5, h6⟩ | ⟨k, h1, h2, h3, h4, h5⟩ | ⟨k, h1, h2, h3, h4, h5, h6, h7⟩ | ⟨k, h1, h2, h3, h4, h5⟩ | ⟨k, h1, h2, h3, h4, h5⟩
  · have e : wordsT x = wSet :: tx x.name :: x.parts.map partT := by unfold wordsT; rw [if_pos k]
    have hp := (parts_all h2).2
    rw [e]
    refine ⟨by simp, all_cons w1_whole (all_cons (word_whole h1) (parts_whole hp)), ?_⟩
    show readF _ _ = _
    unfold readF
    rw [if_pos ⟨rfl, by simp⟩]
    simp only [List.getD_cons_zero, List.drop_succ_cons, List.drop_zero]
    rw [readP_map hp, bytes_tx]
    exact (stm_ext k rfl h3 h4 h5 rfl).symm
  · have e : wordsT x = [wSecret, tx x.name, tx x.text] := by unfold wordsT; rw [if_neg (by omega), if_pos k]
    rw [e]
    refine ⟨by simp, all_cons w2_whole (all_cons (word_whole h1) (all_cons (word_whole h2) all_nil)), ?_⟩
    show readF _ _ = _
    unfold readF
    rw [if_neg (by rintro ⟨e, _⟩; revert e; decide), if_pos ⟨rfl, rfl⟩]
    simp only [List.getD_cons_zero, List.getD_cons_succ]
    rw [bytes_tx, bytes_tx]
    exact (stm_ext k rfl rfl h3 h4 h5).symm
  · have e : wordsT x = wSay :: Lib.itoa x.num :: x.parts.map partT := by unfold wordsT; rw [if_neg (by omega), if_neg (by omega), if_pos k]
    have hp := (parts_all h2).2
    rw [e]
    refine ⟨by simp, all_cons w3_whole (all_cons (num_whole h1.1 (by omega)) (parts_whole hp)), ?_⟩
    show readF _ _ = _
    unfold readF
    rw [if_neg (by rintro ⟨e, _⟩; revert e; decide), if_neg (by rintro ⟨e, _⟩; revert e; decide), if_pos ⟨rfl, by simp⟩]
    simp only [List.getD_cons_zero, List.drop_succ_cons, List.drop_zero]
    rw [readP_map hp, read_itoa _ h1.1 (by omega)]
    exact (stm_ext k h3 h4 rfl h5 rfl).symm
  · have e : wordsT x = [wWait, Lib.itoa x.num, tx x.text, tx x.name, Lib.itoa x.dest] := by unfold wordsT; rw [if_neg (by omega), if_neg (by omega), if_neg (by omega), if_pos k]
    rw [e]
    refine ⟨by simp, all_cons w4_whole (all_cons (num_whole h1.1 (by omega)) (all_cons (plain_whole h3) (all_cons (word_whole h4) (all_cons (num_whole h5.1 (by omega)) all_nil)))), ?_⟩
    show readF _ _ = _
    unfold readF
    rw [if_neg (by rintro ⟨e, _⟩; revert e; decide), if_neg (by rintro ⟨e, _⟩; revert e; decide), if_neg (by rintro ⟨e, _⟩; revert e; decide), if_pos ⟨rfl, rfl⟩]
    simp only [List.getD_cons_zero, List.getD_cons_succ]
    rw [bytes_tx, bytes_tx, read_itoa _ h1.1 (by omega), read_itoa _ h5.1 (by omega)]
    exact (stm_ext k rfl rfl rfl rfl h6).symm
  · have e : wordsT x = wLog :: x.parts.map partT := by unfold wordsT; rw [if_neg (by omega), if_neg (by omega), if_neg (by omega), if_neg (by omega), if_pos k]
    have hp := (parts_all h1).2
    rw [e]
    refine ⟨by simp, all_cons w5_whole (parts_whole hp), ?_⟩
    show readF _ _ = _
    unfold readF
    rw [if_neg (by rintro ⟨e, _⟩; revert e; decide), if_neg (by rintro ⟨e, _⟩; revert e; decide), if_neg (by rintro ⟨e, _⟩; revert e; decide), if_neg (by rintro ⟨e, _⟩; revert e; decide), if_pos rfl, readP_map hp]
    exact (stm_ext k h2 h3 h4 h5 rfl).symm
  · have e : wordsT x = [wIf, tx x.name, if tx x.text = [] then [46] else tx x.text, Lib.itoa x.dest] := by unfold wordsT; rw [if_neg (by omega), if_neg (by omega), if_neg (by omega), if_neg (by omega), if_neg (by omega), if_pos k]
    rw [e]
    refine ⟨by simp, all_cons w6_whole (all_cons (word_whole h1) (all_cons ((dot_text x.text).resolve_right (fun hn => hn h3)) (all_cons (num_whole h5.1 (by omega)) all_nil))), ?_⟩
    show readF _ _ = _
    unfold readF
    rw [if_neg (by rintro ⟨e, _⟩; revert e; decide), if_neg (by rintro ⟨e, _⟩; revert e; decide), if_neg (by rintro ⟨e, _⟩; revert e; decide), if_neg (by rintro ⟨e, _⟩; revert e; decide), if_neg (by decide)]
    simp only [List.getD_cons_zero, List.getD_cons_succ]
    by_cases ht : tx x.text = []
    · rw [if_pos ht, if_pos (by simp), bytes_tx, read_itoa _ h5.1 (by omega)]
      exact (stm_ext k rfl (tx_inj (by rw [ht]; rfl)) h6 rfl h7).symm
    · rw [if_neg ht, if_neg (by rintro ⟨_, _, e⟩; exact h4 e), if_pos (by simp), bytes_tx, bytes_tx, read_itoa _ h5.1 (by omega)]
      exact (stm_ext k rfl rfl h6 rfl h7).symm
  · have e : wordsT x = [wGoto, Lib.itoa x.dest] := by unfold wordsT; rw [if_neg (by omega), if_neg (by omega), if_neg (by omega), if_neg (by omega), if_neg (by omega), if_neg (by omega), if_pos k]
    rw [e]
    refine ⟨by simp, all_cons w7_whole (all_cons (num_whole h1.1 (by omega)) all_nil), ?_⟩
    show readF _ _ = _
    unfold readF
    rw [if_neg (by rintro ⟨e, _⟩; revert e; decide), if_neg (by rintro ⟨e, _⟩; revert e; decide), if_neg (by rintro ⟨e, _⟩; revert e; decide), if_neg (by rintro ⟨e, _⟩; revert e; decide), if_neg (by decide), if_neg (by rintro ⟨e, _⟩; revert e; decide), if_neg (by rintro ⟨e, _⟩; revert e; decide), if_pos ⟨rfl, rfl⟩]
    simp only [List.getD_cons_zero]
    rw [read_itoa _ h1.1 (by omega)]
    exact (stm_ext k h2 h3 h4 rfl h5).symm
  · have e : wordsT x = [wEnd, Lib.itoa x.num] := by unfold wordsT; rw [if_neg (by omega), if_neg (by omega), if_neg (by omega), if_neg (by omega), if_neg (by omega), if_neg (by omega), if_neg (by omega), if_pos k]
    rw [e]
    refine ⟨by simp, all_cons w8_whole (all_cons (num_whole h1.1 (by omega)) all_nil), ?_⟩
    show readF _ _ = _
    unfold readF
    rw [if_neg (by rintro ⟨e, _⟩; revert e; decide), if_neg (by rintro ⟨e, _⟩; revert e; decide), if_neg (by rintro ⟨e, _⟩; revert e; decide), if_neg (by rintro ⟨e, _⟩; revert e; decide), if_neg (by decide), if_neg (by rintro ⟨e, _⟩; revert e; decide), if_neg (by rintro ⟨e, _⟩; revert e; decide), if_neg (by rintro ⟨e, _⟩; revert e; decide), if_pos ⟨rfl, rfl⟩]
    simp only [List.getD_cons_zero]
    rw [read_itoa _ h1.1 (by omega)]
    exact (stm_ext k h2 h3 rfl h4 h5).symm
/-- A right statement is read again from its text. -/
theorem text_back {x : Stm} (h : stmtOk x = true) : readK (splitW false [] (stmtT x)) = x := by
  obtain ⟨h1, h2, h3⟩ := words_back h
  unfold stmtT
  rw [split_join _ h1 h2, h3]
/-- What the program reads. -/
def readStm (l : List UInt8) : Stm × Int := if stmtOk (readK (splitW false [] l)) = true ∧ stmtT (readK (splitW false [] l)) = l then (readK (splitW false [] l), 0) else (stm0, 3)
theorem readStm_yes {l : List UInt8} {x : Stm} (h : stmtOk x = true) (e : stmtT x = l) : readStm l = (x, 0) := by
  have hb := text_back h
  rw [e] at hb
  unfold readStm
  rw [hb, if_pos ⟨h, e⟩]
theorem readStm_no {l : List UInt8} (h : ∀ x, stmtOk x = true → stmtT x ≠ l) : readStm l = (stm0, 3) := by
  unfold readStm
  rw [if_neg (fun hh => h _ hh.1 hh.2)]
end Go.Proofs.YtbadpmghlclfkaaDoor
namespace Go.Proofs.YtbadpmghlclfkaaDoor

/-- A number of at most nine digits; -1: it is none. -/
def numF (n : Int) : List UInt8 → Int
  | [] => n
  | c :: l => if 48 ≤ c.toNat ∧ c.toNat ≤ 57 then numF (10 * n + ((c.toNat : Int) - 48)) l else -1
def numS (l : List UInt8) : Int :=
  if l.length < 1 ∨ 9 < l.length ∨ (1 < l.length ∧ l[0]? = some 48) then -1 else numF 0 l
/-- The pieces between bytes of one kind. -/
def splitB (b : UInt8) : List UInt8 → List UInt8 → List (List UInt8)
  | cur, [] => [cur]
  | cur, c :: l => if c = b then cur :: splitB b [] l else splitB b (cur ++ [c]) l
theorem splitB_none {b : UInt8} : ∀ (l cur : List UInt8), (∀ c ∈ l, c ≠ b) → splitB b cur l = [cur ++ l]
  | [], cur, _ => by simp [splitB]
  | c :: l, cur, h => by rw [splitB, if_neg (h c (by simp)), splitB_none l _ (fun d hd => h d (by simp [hd]))]; simp
theorem splitB_one {b : UInt8} : ∀ (a cur r : List UInt8), (∀ c ∈ a, c ≠ b) → splitB b cur (a ++ b :: r) = (cur ++ a) :: splitB b [] r
  | [], cur, r, _ => by simp [splitB]
  | c :: a, cur, r, h => by rw [List.cons_append, splitB, if_neg (h c (by simp)), splitB_one a _ r (fun d hd => h d (by simp [hd]))]; simp
def prt0 : Prt := ⟨0, noText, 0, 0⟩
/-- A part read from its word. -/
def partS (w : List UInt8) : Prt :=
  if 2 ≤ w.length ∧ w[0]? = some 34 then ⟨1, bytesOf ((w.drop 1).take (w.length - 2)), 0, 0⟩
  else if w.length < 1 ∨ w[0]? ≠ some 36 then prt0
  else if (splitB 91 [] (w.drop 1)).length ≠ 2 ∨ (splitB 91 [] (w.drop 1)).getD 1 [] = [] then ⟨2, bytesOf (w.drop 1), 0, 0⟩
  else ⟨3, bytesOf ((splitB 91 [] (w.drop 1)).getD 0 []), numS ((splitB 58 [] ((splitB 91 [] (w.drop 1)).getD 1 []).dropLast).getD 0 []),
    if (splitB 58 [] ((splitB 91 [] (w.drop 1)).getD 1 []).dropLast).length = 2 then numS ((splitB 58 [] ((splitB 91 [] (w.drop 1)).getD 1 []).dropLast).getD 1 []) else 0⟩
theorem digs3_num : ∀ n : Fin 201, numS (digs3 n.1) = (n.1 : Int) := by decide +kernel
theorem num_itoa (n : Int) (h0 : 0 ≤ n) (h1 : n ≤ 200) : numS (Lib.itoa n) = n := by
  rw [itoa_digs n h0 h1, digs3_num ⟨n.toNat, by omega⟩]
  simp; omega
theorem partS_back {p : Prt} (h : partOk p = true) : partS (partT p) = p := by
  rcases part_cases h with ⟨k, _, hp, h3, h4⟩ | ⟨k, hw, h3, h4⟩ | ⟨k, hw, h0, h1, h2⟩
  · rw [partT1 k]; unfold partS
    rw [if_pos ⟨by simp, rfl⟩]
    have e : ((34 :: (tx p.text ++ [34]) : List UInt8).drop 1).take ((34 :: (tx p.text ++ [34]) : List UInt8).length - 2) = tx p.text := by simp
    rw [e, bytes_tx]
    exact (prt_ext k rfl h3 h4).symm
  · rw [partT2 k]; unfold partS
    rw [if_neg (by simp), if_neg (by simp), List.drop_succ_cons, List.drop_zero, splitB_none _ _ (fun c hc => ne_of_nat (by have := word_all hw c hc; show c.toNat ≠ 91; omega)), if_pos (.inl (by simp)), bytes_tx]
    exact (prt_ext k rfl h3 h4).symm
  · rw [partT3 k]; unfold partS
    have hd : ∀ m : Int, 0 ≤ m → m ≤ 200 → ∀ d : UInt8, (d.toNat < 48 ∨ 57 < d.toNat) → ∀ c ∈ Lib.itoa m, c ≠ d := fun m hm1 hm2 d hd c hc => by
      have := itoa_all m hm1 hm2 c hc
      exact ne_of_nat (by omega)
    have e : Lib.itoa p.lo ++ 58 :: (Lib.itoa p.hi ++ [93]) = (Lib.itoa p.lo ++ 58 :: Lib.itoa p.hi) ++ [93] := by simp
    have e1 : splitB 91 [] (tx p.text ++ 91 :: (Lib.itoa p.lo ++ 58 :: (Lib.itoa p.hi ++ [93]))) = [tx p.text, Lib.itoa p.lo ++ 58 :: (Lib.itoa p.hi ++ [93])] := by
      rw [splitB_one _ _ _ (fun c hc => ne_of_nat (by have := word_all hw c hc; show c.toNat ≠ 91; omega)), splitB_none]
      · simp
      · intro c hc
        simp only [List.mem_cons, List.mem_append, List.not_mem_nil, or_false] at hc
        rcases hc with hc | rfl | hc | rfl
        · exact hd _ (by omega) (by omega) 91 (.inr (by decide)) c hc
        · decide
        · exact hd _ (by omega) (by omega) 91 (.inr (by decide)) c hc
        · decide
    have e2 : splitB 58 [] (Lib.itoa p.lo ++ 58 :: Lib.itoa p.hi) = [Lib.itoa p.lo, Lib.itoa p.hi] := by
      rw [splitB_one _ _ _ (hd _ (by omega) (by omega) 58 (.inr (by decide))), splitB_none _ _ (hd _ (by omega) (by omega) 58 (.inr (by decide)))]
      simp
    rw [if_neg (by simp), if_neg (by simp), List.drop_succ_cons, List.drop_zero, e1, if_neg (by simp)]
    simp only [List.getD_cons_zero, List.getD_cons_succ]
    rw [e, List.dropLast_concat, e2]
    simp only [List.getD_cons_zero, List.getD_cons_succ, List.length_cons, List.length_nil, if_true]
    rw [bytes_tx, num_itoa _ (by omega) (by omega), num_itoa _ (by omega) (by omega)]
    exact (prt_ext k rfl rfl rfl).symm
theorem partS_map {l : List Prt} (h : ∀ p ∈ l, partOk p = true) : (l.map partT).map partS = l := by
  induction l with
  | nil => rfl
  | cons p l ih => rw [List.map_cons, List.map_cons, partS_back (h p (by simp)), ih (fun q hq => h q (by simp [hq]))]
/-- What a kind has: letters. -/
def takesT (k : Int) : List UInt8 :=
  if k = 1 then [110, 112] else if k = 2 then [110, 116] else if k = 3 then [78, 112] else if k = 4 then [78, 116, 110, 111] else if k = 5 then [112] else if k = 6 then [110, 116, 111] else if k = 7 then [111] else if k = 8 then [78] else []
/-- One letter's word. -/
def fillS (s : Stm) (c : UInt8) (w : List UInt8) : Stm :=
  if c = 110 then { s with name := bytesOf w }
  else if c = 116 then { s with text := if w = [46] ∧ s.kind = 6 then noText else bytesOf w }
  else if c = 78 then { s with num := numS w }
  else if c = 111 then { s with dest := numS w }
  else s
/-- All letters' words. -/
def fillAll : Stm → List UInt8 → List (List UInt8) → Stm
  | s, [], _ => s
  | s, _ :: _, [] => s
  | s, c :: cs, w :: ws => if c = 112 then fillAll { s with parts := s.parts ++ (w :: ws).map partS } cs ws else fillAll (fillS s c w) cs ws
def stmK (k : Int) : Stm := ⟨k, noText, noText, 0, 0, []⟩
def kindW (f : List UInt8) : Int :=
  if f = wSet then 1 else if f = wSecret then 2 else if f = wSay then 3 else if f = wWait then 4 else if f = wLog then 5 else if f = wIf then 6 else if f = wGoto then 7 else if f = wEnd then 8 else 0
/-- A statement read from its words. -/
def readS (ws : List (List UInt8)) : Stm := fillAll (stmK (kindW (ws.getD 0 []))) (takesT (kindW (ws.getD 0 []))) (ws.drop 1)
theorem fill_parts (s : Stm) {l : List Prt} (h : ∀ p ∈ l, partOk p = true) (hs : s.parts = []) : fillAll s [112] (l.map partT) = { s with parts := l } := by
  cases l with
  | nil => cases s; simp_all [fillAll]
  | cons p l =>
    have e := partS_map h
    rw [List.map_cons] at e ⊢
    rw [fillAll, if_pos rfl, e, hs, fillAll]
    rfl
theorem words_backS {x : Stm} (h : stmtOk x = true) : readS (wordsT x) = x := by
  rcases stmt_cases h with ⟨k, h1, h2, h3, h4, h5⟩ | ⟨k, h1, h2, h3, h4, h5⟩ | ⟨k, h1, h2, h3, h4, h5⟩ | ⟨k, h1, h2, h3, h4, h5, h6⟩ | ⟨k, h1, h2, h3, h4, h5⟩ | ⟨k, h1, h2, h3, h4, h5, h6, h7⟩ | ⟨k, h1, h2, h3, h4, h5⟩ | ⟨k, h1, h2, h3, h4, h5⟩
  · have e : wordsT x = wSet :: tx x.name :: x.parts.map partT := by unfold wordsT; rw [if_pos k]
    rw [e]
    show fillAll ⟨1, bytesOf (tx x.name), noText, 0, 0, []⟩ [112] (x.parts.map partT) = x
    rw [fill_parts _ (parts_all h2).2 rfl, bytes_tx]
    exact (stm_ext k rfl h3 h4 h5 rfl).symm
  · have e : wordsT x = [wSecret, tx x.name, tx x.text] := by unfold wordsT; rw [if_neg (by omega), if_pos k]
    rw [e]
    show (⟨2, bytesOf (tx x.name), if tx x.text = [46] ∧ (2 : Int) = 6 then noText else bytesOf (tx x.text), 0, 0, []⟩ : Stm) = x
    rw [if_neg (by rintro ⟨_, e⟩; revert e; decide), bytes_tx, bytes_tx]
    exact (stm_ext k rfl rfl h3 h4 h5).symm
  · have e : wordsT x = wSay :: Lib.itoa x.num :: x.parts.map partT := by unfold wordsT; rw [if_neg (by omega), if_neg (by omega), if_pos k]
    rw [e]
    show fillAll ⟨3, noText, noText, numS (Lib.itoa x.num), 0, []⟩ [112] (x.parts.map partT) = x
    rw [fill_parts _ (parts_all h2).2 rfl, num_itoa _ h1.1 (by omega)]
    exact (stm_ext k h3 h4 rfl h5 rfl).symm
  · have e : wordsT x = [wWait, Lib.itoa x.num, tx x.text, tx x.name, Lib.itoa x.dest] := by unfold wordsT; rw [if_neg (by omega), if_neg (by omega), if_neg (by omega), if_pos k]
    rw [e]
    show (⟨4, bytesOf (tx x.name), if tx x.text = [46] ∧ (4 : Int) = 6 then noText else bytesOf (tx x.text), numS (Lib.itoa x.num), numS (Lib.itoa x.dest), []⟩ : Stm) = x
    rw [if_neg (by rintro ⟨_, e⟩; revert e; decide), bytes_tx, bytes_tx, num_itoa _ h1.1 (by omega), num_itoa _ h5.1 (by omega)]
    exact (stm_ext k rfl rfl rfl rfl h6).symm
  · have e : wordsT x = wLog :: x.parts.map partT := by unfold wordsT; rw [if_neg (by omega), if_neg (by omega), if_neg (by omega), if_neg (by omega), if_pos k]
    rw [e]
    show fillAll ⟨5, noText, noText, 0, 0, []⟩ [112] (x.parts.map partT) = x
    rw [fill_parts _ (parts_all h1).2 rfl]
    exact (stm_ext k h2 h3 h4 h5 rfl).symm
  · have e : wordsT x = [wIf, tx x.name, if tx x.text = [] then [46] else tx x.text, Lib.itoa x.dest] := by unfold wordsT; rw [if_neg (by omega), if_neg (by omega), if_neg (by omega), if_neg (by omega), if_neg (by omega), if_pos k]
    rw [e]
    show (⟨6, bytesOf (tx x.name), if (if tx x.text = [] then [46] else tx x.text) = [46] ∧ (6 : Int) = 6 then noText else bytesOf (if tx x.text = [] then [46] else tx x.text), 0, numS (Lib.itoa x.dest), []⟩ : Stm) = x
    rw [bytes_tx, num_itoa _ h5.1 (by omega)]
    by_cases ht : tx x.text = []
    · rw [if_pos ht, if_pos ⟨rfl, rfl⟩]
      exact (stm_ext k rfl (tx_inj (by rw [ht]; rfl)) h6 rfl h7).symm
    · rw [if_neg ht, if_neg (fun e => h4 e.1), bytes_tx]
      exact (stm_ext k rfl rfl h6 rfl h7).symm
  · have e : wordsT x = [wGoto, Lib.itoa x.dest] := by unfold wordsT; rw [if_neg (by omega), if_neg (by omega), if_neg (by omega), if_neg (by omega), if_neg (by omega), if_neg (by omega), if_pos k]
    rw [e]
    show (⟨7, noText, noText, 0, numS (Lib.itoa x.dest), []⟩ : Stm) = x
    rw [num_itoa _ h1.1 (by omega)]
    exact (stm_ext k h2 h3 h4 rfl h5).symm
  · have e : wordsT x = [wEnd, Lib.itoa x.num] := by unfold wordsT; rw [if_neg (by omega), if_neg (by omega), if_neg (by omega), if_neg (by omega), if_neg (by omega), if_neg (by omega), if_neg (by omega), if_pos k]
    rw [e]
    show (⟨8, noText, noText, numS (Lib.itoa x.num), 0, []⟩ : Stm) = x
    rw [num_itoa _ h1.1 (by omega)]
    exact (stm_ext k h2 h3 rfl h4 h5).symm
theorem text_backS {x : Stm} (h : stmtOk x = true) : readS (splitW false [] (stmtT x)) = x := by
  obtain ⟨h1, h2, _⟩ := words_back h
  unfold stmtT
  rw [split_join _ h1 h2, words_backS h]
/-- What the model reads is what the program reads. -/
theorem readS_same (l : List UInt8) : (if stmtOk (readS (splitW false [] l)) = true ∧ stmtT (readS (splitW false [] l)) = l then (readS (splitW false [] l), (0 : Int)) else (stm0, 3)) = readStm l := by
  by_cases h : stmtOk (readS (splitW false [] l)) = true ∧ stmtT (readS (splitW false [] l)) = l
  · rw [if_pos h, readStm_yes h.1 h.2]
  · rw [if_neg h]
    refine (readStm_no fun x hx e => h ?_).symm
    have hb := text_backS hx
    rw [e] at hb
    rw [hb]
    exact ⟨hx, e⟩
end Go.Proofs.YtbadpmghlclfkaaDoor
