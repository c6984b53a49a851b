/- Parts and statements as plain values: which are right. -/
import Derived.Test.YtbadpmghlclfkaaDoorVaultT
namespace Go.Proofs.YtbadpmghlclfkaaDoor

/-- A byte of a text that may be said: from lo to 126, and no quote. -/
def plainC (lo : Nat) (c : UInt8) : Bool := decide (lo ≤ c.toNat) && (decide (c.toNat ≤ 126) && decide (c.toNat ≠ 34))
def plainB (lo : Nat) (l : List UInt8) : Bool := l.all (plainC lo)
def rangeC (lo : Nat) (c : UInt8) : Bool := decide (lo ≤ c.toNat) && decide (c.toNat ≤ 126)
def rangeB (lo : Nat) (l : List UInt8) : Bool := l.all (rangeC lo)
def hasB (b : Nat) (l : List UInt8) : Bool := l.any fun c => decide (c.toNat = b)
theorem plain_split (lo : Nat) (l : List UInt8) : plainB lo l = (rangeB lo l && !hasB 34 l) := by
  induction l with
  | nil => rfl
  | cons c l ih =>
    unfold plainB rangeB hasB at ih ⊢
    rw [List.all_cons, List.all_cons, List.any_cons, ih]
    unfold plainC rangeC
    by_cases h : c.toNat = 34
    · simp [h]
    · simp only [h, not_false_eq_true, ne_eq, decide_true, decide_false, Bool.false_or, Bool.and_true]
      cases decide (lo ≤ c.toNat) <;> cases decide (c.toNat ≤ 126) <;> simp
theorem all_bad {l : List UInt8} {p : UInt8 → Bool} {k : Nat} (hk : k < l.length) (h : p l[k] = false) : l.all p = false := by
  rw [List.all_eq_false]; exact ⟨l[k], List.getElem_mem hk, by simp [h]⟩
theorem all_yes {l : List UInt8} {p : UInt8 → Bool} (h : ∀ j (hj : j < l.length), p l[j] = true) : l.all p = true := by
  rw [List.all_eq_true]; intro x hx; obtain ⟨j, hj, rfl⟩ := List.mem_iff_getElem.1 hx; exact h j hj
theorem any_yes {l : List UInt8} {p : UInt8 → Bool} {k : Nat} (hk : k < l.length) (h : p l[k] = true) : l.any p = true := by
  rw [List.any_eq_true]; exact ⟨l[k], List.getElem_mem hk, h⟩
theorem any_no {l : List UInt8} {p : UInt8 → Bool} (h : ∀ j (hj : j < l.length), p l[j] = false) : l.any p = false := by
  rw [List.any_eq_false]; intro x hx; obtain ⟨j, hj, rfl⟩ := List.mem_iff_getElem.1 hx; simp [h j hj]
/-- A part. -/
structure Prt where
  kind : Int
  text : ByteArray
  lo : Int
  hi : Int
/-- A right part. -/
def partOk (p : Prt) : Bool :=
  if p.kind = 1 then decide (p.text.size ≤ 30) && (plainB 32 p.text.data.toList && (decide (p.lo = 0) && decide (p.hi = 0)))
  else if p.kind = 2 then wordB p.text.data.toList && (decide (p.lo = 0) && decide (p.hi = 0))
  else if p.kind = 3 then wordB p.text.data.toList && (decide (0 ≤ p.lo) && (decide (p.lo ≤ p.hi) && decide (p.hi ≤ 200)))
  else false
/-- Two parts that are alike. -/
def samePrt (x y : Prt) : Bool := x.kind == y.kind && (x.text.toList == y.text.toList && (x.lo == y.lo && x.hi == y.hi))
theorem samePrt_self (x : Prt) : samePrt x x = true := by simp [samePrt]
theorem samePrt_eq {x y : Prt} (h : samePrt x y = true) : x = y := by
  simp only [samePrt, Bool.and_eq_true, beq_iff_eq] at h
  obtain ⟨h1, h2, h3, h4⟩ := h
  have : x.text = y.text := by
    rw [ByteArray.toList_eq, ByteArray.toList_eq] at h2
    cases hx : x.text; cases hy : y.text; rw [hx, hy] at h2; simp at h2; rw [h2]
  cases x; cases y; simp_all
instance : DecidableEq Prt := fun x y => if h : samePrt x y = true then isTrue (samePrt_eq h) else isFalse (fun e => h (by rw [e]; exact samePrt_self y))
/-- Right parts. -/
def partsB (l : List Prt) : Bool := decide (l.length ≤ 6) && l.all partOk
theorem partsB_long {l : List Prt} (h : ¬ l.length ≤ 6) : partsB l = false := by simp [partsB, h]
theorem partsB_bad {l : List Prt} {k : Nat} (hk : k < l.length) (h : partOk l[k] = false) : partsB l = false := by
  have : l.all partOk = false := by rw [List.all_eq_false]; exact ⟨l[k], List.getElem_mem hk, by simp [h]⟩
  simp [partsB, this]
theorem partsB_yes {l : List Prt} (h6 : l.length ≤ 6) (h : ∀ j (hj : j < l.length), partOk l[j] = true) : partsB l = true := by
  have : l.all partOk = true := by rw [List.all_eq_true]; intro x hx; obtain ⟨j, hj, rfl⟩ := List.mem_iff_getElem.1 hx; exact h j hj
  simp [partsB, this, h6]
/-- A statement. -/
structure Stm where
  kind : Int
  name : ByteArray
  text : ByteArray
  num : Int
  dest : Int
  parts : List Prt
def rng (n lo hi : Int) : Bool := decide (lo ≤ n ∧ n ≤ hi)
/-- What a kind asks of that which it has. -/
def rightB (x : Stm) : Bool :=
  if x.kind = 1 then wordB x.name.data.toList && partsB x.parts
  else if x.kind = 2 then wordB x.name.data.toList && wordB x.text.data.toList
  else if x.kind = 3 then rng x.num 0 2 && partsB x.parts
  else if x.kind = 4 then rng x.num 0 2 && (globOk x.text.data.toList && (plainB 33 x.text.data.toList && (wordB x.name.data.toList && rng x.dest 0 40)))
  else if x.kind = 5 then partsB x.parts
  else if x.kind = 6 then wordB x.name.data.toList && (decide (x.text.size ≤ 30) && (plainB 33 x.text.data.toList && (!decide (x.text.data.toList = [46]) && rng x.dest 0 40)))
  else if x.kind = 7 then rng x.dest 0 40
  else if x.kind = 8 then rng x.num 0 99
  else false
def sameL (a b : List UInt8) : Bool := decide (a = b)
def sameP (a b : List Prt) : Bool := decide (a = b)
def nameless (x : Stm) : Bool := sameL x.name.data.toList []
def textless (x : Stm) : Bool := sameL x.text.data.toList []
def numless (x : Stm) : Bool := decide (x.num = 0)
def destless (x : Stm) : Bool := decide (x.dest = 0)
def partless (x : Stm) : Bool := sameP x.parts []
/-- All else is zero. -/
def restB (x : Stm) : Bool :=
  if x.kind = 1 then textless x && (numless x && destless x)
  else if x.kind = 2 then numless x && (destless x && partless x)
  else if x.kind = 3 then nameless x && (textless x && destless x)
  else if x.kind = 4 then partless x
  else if x.kind = 5 then nameless x && (textless x && (numless x && destless x))
  else if x.kind = 6 then numless x && partless x
  else if x.kind = 7 then nameless x && (textless x && (numless x && partless x))
  else if x.kind = 8 then nameless x && (textless x && (destless x && partless x))
  else true
/-- A right statement. -/
def stmtOk (x : Stm) : Bool := rightB x && restB x
end Go.Proofs.YtbadpmghlclfkaaDoor
