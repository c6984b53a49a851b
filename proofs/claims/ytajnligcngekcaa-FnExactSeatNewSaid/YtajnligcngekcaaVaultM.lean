/- Vaults as plain lists: which are right, places, shapes, twins, marks. -/
import Derived.Test.YtajnligcngekcaaGlobM
namespace Go.Proofs.Ytajnligcngekcaa

def letterB (c : UInt8) : Bool := decide (97 ≤ c.toNat) && decide (c.toNat ≤ 122)
/-- A word. -/
def wordB (l : List UInt8) : Bool := decide (1 ≤ l.length) && decide (l.length ≤ 12) && l.all letterB
/-- A secret. -/
structure Sec where
  name : ByteArray
  seat : Int
  word : ByteArray
  prompt : ByteArray
def secOk (x : Sec) : Bool := wordB x.name.data.toList && decide (0 ≤ x.seat) && decide (x.seat ≤ 2) && wordB x.word.data.toList && globOk x.prompt.data.toList
def lessB (a b : ByteArray) : Bool := Op.bytesLess a.toList b.toList
/-- The name ahead of it is less. -/
def riseB (v : List Sec) : Nat → Bool
  | 0 => true
  | k + 1 => match v[k]?, v[k + 1]? with | some x, some y => lessB x.name y.name | _, _ => false
def okAt (v : List Sec) (k : Nat) : Bool := (match v[k]? with | some x => secOk x | none => false) && riseB v k
def upTo (v : List Sec) (k : Nat) : Bool := (List.range k).all (okAt v)
/-- A right vault. -/
def vaultB (v : List Sec) : Bool := decide (v.length ≤ 4) && upTo v v.length
theorem upTo_zero (v : List Sec) : upTo v 0 = true := rfl
theorem upTo_succ (v : List Sec) (k : Nat) : upTo v (k + 1) = (upTo v k && okAt v k) := by simp [upTo, List.range_succ]
theorem upTo_get {v : List Sec} {k j : Nat} (h : upTo v k = true) (hj : j < k) : okAt v j = true := List.all_eq_true.1 h j (by simpa using hj)
theorem vaultB_long {v : List Sec} (h : ¬ v.length ≤ 4) : vaultB v = false := by simp [vaultB, h]
theorem vaultB_bad {v : List Sec} {k : Nat} (hk : k < v.length) (h : okAt v k = false) : vaultB v = false := by
  cases hu : vaultB v with
  | false => rfl
  | true =>
    simp only [vaultB, Bool.and_eq_true] at hu
    rw [upTo_get hu.2 hk] at h; cases h
theorem vaultB_yes {v : List Sec} (h4 : v.length ≤ 4) (h : upTo v v.length = true) : vaultB v = true := by simp [vaultB, h4, h]
theorem vaultB_len {v : List Sec} (h : vaultB v = true) : v.length ≤ 4 := by simp only [vaultB, Bool.and_eq_true, decide_eq_true_eq] at h; exact h.1
theorem vaultB_at {v : List Sec} (h : vaultB v = true) {k : Nat} (hk : k < v.length) : okAt v k = true := by
  simp only [vaultB, Bool.and_eq_true] at h
  exact upTo_get h.2 hk
theorem okAt_of {v : List Sec} {k : Nat} (hk : k < v.length) : okAt v k = (secOk v[k] && riseB v k) := by simp [okAt, List.getElem?_eq_getElem hk]
theorem riseB_of {v : List Sec} {k : Nat} (hk : k + 1 < v.length) : riseB v (k + 1) = lessB v[k].name v[k + 1].name := by
  simp [riseB, List.getElem?_eq_getElem hk, List.getElem?_eq_getElem (show k < v.length by omega)]
theorem vaultB_sec {v : List Sec} (h : vaultB v = true) {k : Nat} (hk : k < v.length) : secOk v[k] = true := by
  have := vaultB_at h hk
  rw [okAt_of hk, Bool.and_eq_true] at this
  exact this.1
theorem secOk_parts {x : Sec} (h : secOk x = true) : wordB x.name.data.toList = true ∧ 0 ≤ x.seat ∧ x.seat ≤ 2 ∧ wordB x.word.data.toList = true ∧ globOk x.prompt.data.toList = true := by
  simp only [secOk, Bool.and_eq_true, decide_eq_true_eq] at h
  exact ⟨h.1.1.1.1, h.1.1.1.2, h.1.1.2, h.1.2, h.2⟩
theorem word_parts {l : List UInt8} (h : wordB l = true) : 1 ≤ l.length ∧ l.length ≤ 12 ∧ ∀ c ∈ l, 97 ≤ c.toNat ∧ c.toNat ≤ 122 := by
  simp only [wordB, Bool.and_eq_true, decide_eq_true_eq, List.all_eq_true] at h
  refine ⟨h.1.1, h.1.2, fun c hc => ?_⟩
  have := h.2 c hc
  simpa [letterB] using this
theorem word_short {l : List UInt8} (h : ¬ 1 ≤ l.length ∨ ¬ l.length ≤ 12) : wordB l = false := by
  rcases h with h | h <;> simp [wordB, h]
theorem word_bad {l : List UInt8} {k : Nat} (hk : k < l.length) (h : letterB l[k] = false) : wordB l = false := by
  have : l.all letterB = false := by
    rw [List.all_eq_false]
    exact ⟨l[k], List.getElem_mem hk, by simp [h]⟩
  simp [wordB, this]
theorem word_yes {l : List UInt8} (h1 : 1 ≤ l.length) (h2 : l.length ≤ 12) (h : ∀ k (hk : k < l.length), letterB l[k] = true) : wordB l = true := by
  have : l.all letterB = true := by
    rw [List.all_eq_true]
    intro c hc
    obtain ⟨k, hk, rfl⟩ := List.mem_iff_getElem.1 hc
    exact h k hk
  simp [wordB, this, h1, h2]
theorem bytesLess_irrefl : ∀ a : List UInt8, Op.bytesLess a a = false
  | [] => by simp [Op.bytesLess]
  | x :: r => by simp [Op.bytesLess, bytesLess_irrefl r]
theorem bytesLess_trans : ∀ a b c : List UInt8, Op.bytesLess a b = true → Op.bytesLess b c = true → Op.bytesLess a c = true
  | _, [], _, h, _ => by simp [Op.bytesLess] at h
  | _, _ :: _, [], _, h => by simp [Op.bytesLess] at h
  | [], _ :: _, _ :: _, _, _ => by simp [Op.bytesLess]
  | x :: r, y :: s, z :: t, h1, h2 => by
    simp only [Op.bytesLess, Bool.or_eq_true, Bool.and_eq_true, decide_eq_true_eq, beq_iff_eq] at h1 h2 ⊢
    rcases h1 with h1 | ⟨rfl, h1⟩
    · rcases h2 with h2 | ⟨rfl, h2⟩
      · exact .inl (UInt8.lt_trans h1 h2)
      · exact .inl h1
    · rcases h2 with h2 | ⟨rfl, h2⟩
      · exact .inl h2
      · exact .inr ⟨rfl, bytesLess_trans r s t h1 h2⟩
theorem rise_lt {v : List Sec} (h : vaultB v = true) : ∀ (d j : Nat) (hk : j + d + 1 < v.length), lessB v[j].name v[j + d + 1].name = true
  | 0, j, hk => by
    have := vaultB_at h hk
    rw [okAt_of hk, Bool.and_eq_true, riseB_of hk] at this
    exact this.2
  | d + 1, j, hk => by
    have h1 := rise_lt h d j (by omega)
    have h2 := vaultB_at h hk
    rw [okAt_of hk, Bool.and_eq_true, riseB_of hk] at h2
    exact bytesLess_trans _ _ _ h1 h2.2
/-- No two secrets of a right vault have one name. -/
theorem names_apart {v : List Sec} (h : vaultB v = true) {j k : Nat} (hj : j < k) (hk : k < v.length) : v[j].name ≠ v[k].name := by
  intro e
  obtain ⟨d, rfl⟩ : ∃ d, k = j + d + 1 := ⟨k - j - 1, by omega⟩
  have := rise_lt h d j hk
  rw [e] at this
  unfold lessB at this
  rw [bytesLess_irrefl] at this
  cases this
/-- The place of a name. -/
def placeOf (v : List Sec) (x : ByteArray) : Int := match v.findIdx? (fun s => decide (s.name = x)) with | some k => (k : Int) | none => -1
theorem place_some {v : List Sec} {x : ByteArray} {k : Nat} (hk : k < v.length) (h : v[k].name = x) (hn : ∀ j (hj : j < k), (v[j]'(by omega)).name ≠ x) : placeOf v x = (k : Int) := by
  have : v.findIdx? (fun s => decide (s.name = x)) = some k := by
    rw [List.findIdx?_eq_some_iff_getElem]
    exact ⟨hk, by simpa using h, fun j hj => by simpa using hn j hj⟩
  unfold placeOf
  rw [this]
theorem place_none {v : List Sec} {x : ByteArray} (hn : ∀ j (hj : j < v.length), v[j].name ≠ x) : placeOf v x = -1 := by
  have : v.findIdx? (fun s => decide (s.name = x)) = none := by
    rw [List.findIdx?_eq_none_iff]
    intro s hs
    obtain ⟨j, hj, rfl⟩ := List.mem_iff_getElem.1 hs
    simpa using hn j hj
  unfold placeOf
  rw [this]
def secretAt (v : List Sec) (x : ByteArray) : Int := if vaultB v = true then placeOf v x else -1
/-- Nothing but the letters of the words differ. -/
def frameB (x y : Sec) : Bool := decide (x.name = y.name) && decide (x.seat = y.seat) && decide (x.prompt = y.prompt) && decide (x.word.size = y.word.size)
def frameAt (a b : List Sec) (k : Nat) : Bool := match a[k]?, b[k]? with | some x, some y => frameB x y | _, _ => false
def framesTo (a b : List Sec) (k : Nat) : Bool := (List.range k).all (frameAt a b)
def shapeB (a b : List Sec) : Bool := vaultB a && vaultB b && decide (a.length = b.length) && framesTo a b a.length
theorem framesTo_succ (a b : List Sec) (k : Nat) : framesTo a b (k + 1) = (framesTo a b k && frameAt a b k) := by simp [framesTo, List.range_succ]
theorem frameAt_of {a b : List Sec} {k : Nat} (h1 : k < a.length) (h2 : k < b.length) : frameAt a b k = frameB a[k] b[k] := by simp [frameAt, List.getElem?_eq_getElem h1, List.getElem?_eq_getElem h2]
theorem shapeB_bad {a b : List Sec} {k : Nat} (hk : k < a.length) (h : frameAt a b k = false) : shapeB a b = false := by
  have : framesTo a b a.length = false := by
    cases hu : framesTo a b a.length with
    | false => rfl
    | true => rw [List.all_eq_true.1 hu k (by simpa using hk)] at h; cases h
  simp [shapeB, this]
/-- A letter n places behind. -/
def turnB (n : Nat) (c : UInt8) : UInt8 := UInt8.ofNat (97 + (c.toNat - 97 + n) % 26)
def turnL (n : Nat) (l : List UInt8) : List UInt8 := l.map (turnB n)
def twinS (n : Nat) (x : Sec) : Sec := { x with word := ⟨(turnL n x.word.data.toList).toArray⟩ }
def twinL (v : List Sec) (n : Int) : List Sec := if vaultB v = true ∧ 0 ≤ n ∧ n ≤ 25 then v.map (twinS n.toNat) else []
def marksOf (v : List Sec) : Int := if vaultB v = true then 2 ^ v.length - 1 else 0
end Go.Proofs.Ytajnligcngekcaa
