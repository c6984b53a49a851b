/- The texts of statements as plain lists: the words, split again, read again. -/
import Derived.Test.YtbadpmghlclfkaaDoorStmM
import Derived.Test.YtbadpmghlclfkaaDoorBase
import Derived.Lib.Join
import Derived.Lib.ParseIntB
import Derived.Lib.ItoaNum
import Derived.Lib.IndexMore
import Derived.Lib.TrimByte
import Derived.Lib.Strings
namespace Go.Proofs.YtbadpmghlclfkaaDoor

def wSet : List UInt8 := [115, 101, 116]
def wSecret : List UInt8 := [115, 101, 99, 114, 101, 116]
def wSay : List UInt8 := [115, 97, 121]
def wWait : List UInt8 := [119, 97, 105, 116]
def wLog : List UInt8 := [108, 111, 103]
def wIf : List UInt8 := [105, 102]
def wGoto : List UInt8 := [103, 111, 116, 111]
def wEnd : List UInt8 := [101, 110, 100]
def tx (x : ByteArray) : List UInt8 := x.data.toList
/-- The word of a part. -/
def partT (p : Prt) : List UInt8 :=
  if p.kind = 1 then 34 :: (tx p.text ++ [34])
  else if p.kind = 3 then 36 :: (tx p.text ++ 91 :: (Lib.itoa p.lo ++ 58 :: (Lib.itoa p.hi ++ [93])))
  else 36 :: tx p.text
/-- The words of a statement. -/
def wordsT (x : Stm) : List (List UInt8) :=
  if x.kind = 1 then wSet :: tx x.name :: x.parts.map partT
  else if x.kind = 2 then [wSecret, tx x.name, tx x.text]
  else if x.kind = 3 then wSay :: Lib.itoa x.num :: x.parts.map partT
  else if x.kind = 4 then [wWait, Lib.itoa x.num, tx x.text, tx x.name, Lib.itoa x.dest]
  else if x.kind = 5 then wLog :: x.parts.map partT
  else if x.kind = 6 then [wIf, tx x.name, if tx x.text = [] then [46] else tx x.text, Lib.itoa x.dest]
  else if x.kind = 7 then [wGoto, Lib.itoa x.dest]
  else if x.kind = 8 then [wEnd, Lib.itoa x.num]
  else []
def stmtT (x : Stm) : List UInt8 := Lib.join (wordsT x) [32]
/-- The words of a line: what stands between blanks, but for those in quotes. -/
def splitW : Bool → List UInt8 → List UInt8 → List (List UInt8)
  | _, cur, [] => [cur]
  | q, cur, c :: l => if c = 32 ∧ q = false then cur :: splitW false [] l else splitW (if c = 34 then !q else q) (cur ++ [c]) l
/-- A word that ends where it ends. -/
def Whole (w : List UInt8) : Prop := ∀ cur, (∀ rest, splitW false cur (w ++ 32 :: rest) = (cur ++ w) :: splitW false [] rest) ∧ splitW false cur w = [cur ++ w]
theorem split_clean (q : Bool) (w : List UInt8) : ∀ (cur rest : List UInt8), (∀ c ∈ w, c ≠ 34 ∧ (q = false → c ≠ 32)) → splitW q cur (w ++ rest) = splitW q (cur ++ w) rest := by
  induction w with
  | nil => intro cur rest _; simp
  | cons c w ih =>
    intro cur rest h
    have h0 := h c (by simp)
    rw [List.cons_append, splitW, if_neg (by rintro ⟨e1, e2⟩; exact h0.2 e2 e1), if_neg h0.1, ih _ _ (fun d hd => h d (by simp [hd])), List.append_assoc]
    rfl
theorem whole_clean {w : List UInt8} (h : ∀ c ∈ w, c ≠ 34 ∧ c ≠ 32) : Whole w := by
  intro cur
  refine ⟨fun rest => ?_, ?_⟩
  · rw [split_clean false w _ _ (fun c hc => ⟨(h c hc).1, fun _ => (h c hc).2⟩), splitW, if_pos ⟨rfl, rfl⟩]
  · have := split_clean false w cur [] (fun c hc => ⟨(h c hc).1, fun _ => (h c hc).2⟩)
    rw [List.append_nil] at this
    rw [this, splitW]
theorem whole_quote {t : List UInt8} (h : ∀ c ∈ t, c ≠ 34) : Whole (34 :: (t ++ [34])) := by
  intro cur
  have h1 : ∀ rest, splitW false cur (34 :: (t ++ [34]) ++ rest) = splitW false (cur ++ 34 :: (t ++ [34])) rest := by
    intro rest
    rw [List.cons_append, splitW, if_neg (by decide), if_pos rfl, List.append_assoc, Bool.not_false, split_clean true t _ _ (fun c hc => ⟨h c hc, fun e => by cases e⟩), List.cons_append, List.nil_append, splitW, if_neg (by decide), if_pos rfl, Bool.not_true]
    congr 1
    simp
  refine ⟨fun rest => ?_, ?_⟩
  · rw [h1, splitW, if_pos ⟨rfl, rfl⟩]
  · have := h1 []
    rw [List.append_nil] at this
    rw [this, splitW]
theorem join_cons2 (a b : List UInt8) (l : List (List UInt8)) : Lib.join (a :: b :: l) [32] = a ++ 32 :: Lib.join (b :: l) [32] := by
  unfold Lib.join
  simp [List.intercalate, List.intersperse]
theorem join_one (a : List UInt8) : Lib.join [a] [32] = a := by simp [Lib.join, List.intercalate, List.intersperse]
theorem split_join : ∀ (ws : List (List UInt8)), ws ≠ [] → (∀ w ∈ ws, Whole w) → splitW false [] (Lib.join ws [32]) = ws
  | [], h, _ => absurd rfl h
  | [a], _, hw => by rw [join_one, (hw a (by simp) []).2]; simp
  | a :: b :: l, _, hw => by
    rw [join_cons2, (hw a (by simp) []).1, split_join (b :: l) (by simp) (fun w h => hw w (by simp at h ⊢; right; exact h))]
    simp
/-- The number of a text; what is none comes as some other. -/
def readD (l : List UInt8) : Int := match Lib.parseIntB 64 l with
  | .ok v => v
  | .range => Lib.intSat 64 l
  | _ => 0
def noText : ByteArray := ⟨#[]⟩
/-- A part read from its word. -/
def readP (w : List UInt8) : Prt :=
  if Lib.hasPrefix w [36] = true then
    if (Lib.cut (w.drop 1) [91]).2.2 = true then
      ⟨3, bytesOf (Lib.cut (w.drop 1) [91]).1, readD (Lib.cut (Lib.trimSuffix (Lib.cut (w.drop 1) [91]).2.1 [93]) [58]).1, readD (Lib.cut (Lib.trimSuffix (Lib.cut (w.drop 1) [91]).2.1 [93]) [58]).2.1⟩
    else ⟨2, bytesOf (w.drop 1), 0, 0⟩
  else ⟨1, bytesOf (Lib.trimB w 34), 0, 0⟩
def stm0 : Stm := ⟨0, noText, noText, 0, 0, []⟩
/-- A statement read from its words. -/
def readF (f : List UInt8) (r : List (List UInt8)) : Stm :=
  if f = wSet ∧ 0 < r.length then ⟨1, bytesOf (r.getD 0 []), noText, 0, 0, (r.drop 1).map readP⟩
  else if f = wSecret ∧ r.length = 2 then ⟨2, bytesOf (r.getD 0 []), bytesOf (r.getD 1 []), 0, 0, []⟩
  else if f = wSay ∧ 0 < r.length then ⟨3, noText, noText, readD (r.getD 0 []), 0, (r.drop 1).map readP⟩
  else if f = wWait ∧ r.length = 4 then ⟨4, bytesOf (r.getD 2 []), bytesOf (r.getD 1 []), readD (r.getD 0 []), readD (r.getD 3 []), []⟩
  else if f = wLog then ⟨5, noText, noText, 0, 0, r.map readP⟩
  else if f = wIf ∧ r.length = 3 ∧ r.getD 1 [] = [46] then ⟨6, bytesOf (r.getD 0 []), noText, 0, readD (r.getD 2 []), []⟩
  else if f = wIf ∧ r.length = 3 then ⟨6, bytesOf (r.getD 0 []), bytesOf (r.getD 1 []), 0, readD (r.getD 2 []), []⟩
  else if f = wGoto ∧ r.length = 1 then ⟨7, noText, noText, 0, readD (r.getD 0 []), []⟩
  else if f = wEnd ∧ r.length = 1 then ⟨8, noText, noText, readD (r.getD 0 []), 0, []⟩
  else stm0
def readK : List (List UInt8) → Stm
  | [] => stm0
  | f :: r => readF f r
end Go.Proofs.YtbadpmghlclfkaaDoor
