/- Vaults as plain lists: which are right, places, shapes, twins, marks. WordRight of the program (a range over runes) and of the model. Slices of secrets: what can be read in them; how large, copied, compared. Slices of secrets, copied and compared by the laws. -/
import Derived.Test.YtbadpmghlclfkaaGlobM
import Derived.Test.YtbadpmghlclfkaaBase
import Derived.Laws.RangeAny
import Derived.Test.YtbadpmghlclfkaaBlk
import Derived.Deep.RegionHeld3
namespace Go.Proofs.Ytbadpmghlclfkaa

def letterB (c : UInt8) : Bool := decide (97 ≤ c.toNat) && decide (c.toNat ≤ 122)
/-- A word. -/
def wordB (l : List UInt8) : Bool := decide (1 ≤ l.length) && decide (l.length ≤ 12) && l.all letterB
/-- A secret. -/
structure Sec where
  name : ByteArray
  seat : Int
  word : ByteArray
  prompt : ByteArray
def secOk (x : Sec) : Bool := wordB x.name.data.toList && decide (0 ≤ x.seat) && decide (x.seat ≤ 2) && wordB x.word.data.toList && globOk x.prompt.data.toList
def lessB (a b : ByteArray) : Bool := Op.bytesLess a.toList b.toList
/-- The name ahead of it is less. -/
def riseB (v : List Sec) : Nat → Bool
  | 0 => true
  | k + 1 => match v[k]?, v[k + 1]? with | some x, some y => lessB x.name y.name | _, _ => false
def okAt (v : List Sec) (k : Nat) : Bool := (match v[k]? with | some x => secOk x | none => false) && riseB v k
def upTo (v : List Sec) (k : Nat) : Bool := (List.range k).all (okAt v)
/-- A right vault. -/
def vaultB (v : List Sec) : Bool := decide (v.length ≤ 4) && upTo v v.length
theorem upTo_zero (v : List Sec) : upTo v 0 = true := rfl
theorem upTo_succ (v : List Sec) (k : Nat) : upTo v (k + 1) = (upTo v k && okAt v k) := by simp [upTo, List.range_succ]
theorem upTo_get {v : List Sec} {k j : Nat} (h : upTo v k = true) (hj : j < k) : okAt v j = true := List.all_eq_true.1 h j (by simpa using hj)
theorem vaultB_long {v : List Sec} (h : ¬ v.length ≤ 4) : vaultB v = false := by simp [vaultB, h]
theorem vaultB_bad {v : List Sec} {k : Nat} (hk : k < v.length) (h : okAt v k = false) : vaultB v = false := by
  cases hu : vaultB v with
  | false => rfl
  | true =>
    simp only [vaultB, Bool.and_eq_true] at hu
    rw [upTo_get hu.2 hk] at h; cases h
theorem vaultB_yes {v : List Sec} (h4 : v.length ≤ 4) (h : upTo v v.length = true) : vaultB v = true := by simp [vaultB, h4, h]
theorem vaultB_len {v : List Sec} (h : vaultB v = true) : v.length ≤ 4 := by simp only [vaultB, Bool.and_eq_true, decide_eq_true_eq] at h; exact h.1
theorem vaultB_at {v : List Sec} (h : vaultB v = true) {k : Nat} (hk : k < v.length) : okAt v k = true := by
  simp only [vaultB, Bool.and_eq_true] at h
  exact upTo_get h.2 hk
theorem okAt_of {v : List Sec} {k : Nat} (hk : k < v.length) : okAt v k = (secOk v[k] && riseB v k) := by simp [okAt, List.getElem?_eq_getElem hk]
theorem riseB_of {v : List Sec} {k : Nat} (hk : k + 1 < v.length) : riseB v (k + 1) = lessB v[k].name v[k + 1].name := by
  simp [riseB, List.getElem?_eq_getElem hk, List.getElem?_eq_getElem (show k < v.length by omega)]
theorem vaultB_sec {v : List Sec} (h : vaultB v = true) {k : Nat} (hk : k < v.length) : secOk v[k] = true := by
  have := vaultB_at h hk
  rw [okAt_of hk, Bool.and_eq_true] at this
  exact this.1
theorem secOk_parts {x : Sec} (h : secOk x = true) : wordB x.name.data.toList = true ∧ 0 ≤ x.seat ∧ x.seat ≤ 2 ∧ wordB x.word.data.toList = true ∧ globOk x.prompt.data.toList = true := by
  simp only [secOk, Bool.and_eq_true, decide_eq_true_eq] at h
  exact ⟨h.1.1.1.1, h.1.1.1.2, h.1.1.2, h.1.2, h.2⟩
theorem word_parts {l : List UInt8} (h : wordB l = true) : 1 ≤ l.length ∧ l.length ≤ 12 ∧ ∀ c ∈ l, 97 ≤ c.toNat ∧ c.toNat ≤ 122 := by
  simp only [wordB, Bool.and_eq_true, decide_eq_true_eq, List.all_eq_true] at h
  refine ⟨h.1.1, h.1.2, fun c hc => ?_⟩
  have := h.2 c hc
  simpa [letterB] using this
theorem word_short {l : List UInt8} (h : ¬ 1 ≤ l.length ∨ ¬ l.length ≤ 12) : wordB l = false := by
  rcases h with h | h <;> simp [wordB, h]
theorem word_bad {l : List UInt8} {k : Nat} (hk : k < l.length) (h : letterB l[k] = false) : wordB l = false := by
  have : l.all letterB = false := by
    rw [List.all_eq_false]
    exact ⟨l[k], List.getElem_mem hk, by simp [h]⟩
  simp [wordB, this]
theorem word_yes {l : List UInt8} (h1 : 1 ≤ l.length) (h2 : l.length ≤ 12) (h : ∀ k (hk : k < l.length), letterB l[k] = true) : wordB l = true := by
  have : l.all letterB = true := by
    rw [List.all_eq_true]
    intro c hc
    obtain ⟨k, hk, rfl⟩ := List.mem_iff_getElem.1 hc
    exact h k hk
  simp [wordB, this, h1, h2]
theorem bytesLess_irrefl : ∀ a : List UInt8, Op.bytesLess a a = false
  | [] => by simp [Op.bytesLess]
  | x :: r => by simp [Op.bytesLess, bytesLess_irrefl r]
theorem bytesLess_trans : ∀ a b c : List UInt8, Op.bytesLess a b = true → Op.bytesLess b c = true → Op.bytesLess a c = true
  | _, [], _, h, _ => by simp [Op.bytesLess] at h
  | _, _ :: _, [], _, h => by simp [Op.bytesLess] at h
  | [], _ :: _, _ :: _, _, _ => by simp [Op.bytesLess]
  | x :: r, y :: s, z :: t, h1, h2 => by
    simp only [Op.bytesLess, Bool.or_eq_true, Bool.and_eq_true, decide_eq_true_eq, beq_iff_eq] at h1 h2 ⊢
    rcases h1 with h1 | ⟨rfl, h1⟩
    · rcases h2 with h2 | ⟨rfl, h2⟩
      · exact .inl (UInt8.lt_trans h1 h2)
      · exact .inl h1
    · rcases h2 with h2 | ⟨rfl, h2⟩
      · exact .inl h2
      · exact .inr ⟨rfl, bytesLess_trans r s t h1 h2⟩
theorem rise_lt {v : List Sec} (h : vaultB v = true) : ∀ (d j : Nat) (hk : j + d + 1 < v.length), lessB v[j].name v[j + d + 1].name = true
  | 0, j, hk => by
    have := vaultB_at h hk
    rw [okAt_of hk, Bool.and_eq_true, riseB_of hk] at this
    exact this.2
  | d + 1, j, hk => by
    have h1 := rise_lt h d j (by omega)
    have h2 := vaultB_at h hk
    rw [okAt_of hk, Bool.and_eq_true, riseB_of hk] at h2
    exact bytesLess_trans _ _ _ h1 h2.2
/-- No two secrets of a right vault have one name. -/
theorem names_apart {v : List Sec} (h : vaultB v = true) {j k : Nat} (hj : j < k) (hk : k < v.length) : v[j].name ≠ v[k].name := by
  intro e
  obtain ⟨d, rfl⟩ : ∃ d, k = j + d + 1 := ⟨k - j - 1, by omega⟩
  have := rise_lt h d j hk
  rw [e] at this
  unfold lessB at this
  rw [bytesLess_irrefl] at this
  cases this
/-- The place of a name. -/
def placeOf (v : List Sec) (x : ByteArray) : Int := match v.findIdx? (fun s => decide (s.name = x)) with | some k => (k : Int) | none => -1
theorem place_some {v : List Sec} {x : ByteArray} {k : Nat} (hk : k < v.length) (h : v[k].name = x) (hn : ∀ j (hj : j < k), (v[j]'(by omega)).name ≠ x) : placeOf v x = (k : Int) := by
  have : v.findIdx? (fun s => decide (s.name = x)) = some k := by
    rw [List.findIdx?_eq_some_iff_getElem]
    exact ⟨hk, by simpa using h, fun j hj => by simpa using hn j hj⟩
  unfold placeOf
  rw [this]
theorem place_none {v : List Sec} {x : ByteArray} (hn : ∀ j (hj : j < v.length), v[j].name ≠ x) : placeOf v x = -1 := by
  have : v.findIdx? (fun s => decide (s.name = x)) = none := by
    rw [List.findIdx?_eq_none_iff]
    intro s hs
    obtain ⟨j, hj, rfl⟩ := List.mem_iff_getElem.1 hs
    simpa using hn j hj
  unfold placeOf
  rw [this]
def secretAt (v : List Sec) (x : ByteArray) : Int := if vaultB v = true then placeOf v x else -1
/-- Nothing but the letters of the words differ. -/
def frameB (x y : Sec) : Bool := decide (x.name = y.name) && decide (x.seat = y.seat) && decide (x.prompt = y.prompt) && decide (x.word.size = y.word.size)
def frameAt (a b : List Sec) (k : Nat) : Bool := match a[k]?, b[k]? with | some x, some y => frameB x y | _, _ => false
def framesTo (a b : List Sec) (k : Nat) : Bool := (List.range k).all (frameAt a b)
def shapeB (a b : List Sec) : Bool := vaultB a && vaultB b && decide (a.length = b.length) && framesTo a b a.length
theorem framesTo_succ (a b : List Sec) (k : Nat) : framesTo a b (k + 1) = (framesTo a b k && frameAt a b k) := by simp [framesTo, List.range_succ]
theorem frameAt_of {a b : List Sec} {k : Nat} (h1 : k < a.length) (h2 : k < b.length) : frameAt a b k = frameB a[k] b[k] := by simp [frameAt, List.getElem?_eq_getElem h1, List.getElem?_eq_getElem h2]
theorem shapeB_bad {a b : List Sec} {k : Nat} (hk : k < a.length) (h : frameAt a b k = false) : shapeB a b = false := by
  have : framesTo a b a.length = false := by
    cases hu : framesTo a b a.length with
    | false => rfl
    | true => rw [List.all_eq_true.1 hu k (by simpa using hk)] at h; cases h
  simp [shapeB, this]
/-- A letter n places behind. -/
def turnB (n : Nat) (c : UInt8) : UInt8 := UInt8.ofNat (97 + (c.toNat - 97 + n) % 26)
def turnL (n : Nat) (l : List UInt8) : List UInt8 := l.map (turnB n)
def twinS (n : Nat) (x : Sec) : Sec := { x with word := ⟨(turnL n x.word.data.toList).toArray⟩ }
def twinL (v : List Sec) (n : Int) : List Sec := if vaultB v = true ∧ 0 ≤ n ∧ n ≤ 25 then v.map (twinS n.toNat) else []
def marksOf (v : List Sec) : Int := if vaultB v = true then 2 ^ v.length - 1 else 0
end Go.Proofs.Ytbadpmghlclfkaa
namespace Go.Proofs.Ytbadpmghlclfkaa
open Go.RowKit

theorem below_iter {B : Nat} {w0 w : World} (h : Below B w0 w) (hB : B ≤ w.heap.size) (s : ByteArray) (pos : Nat) : Below B w0 (w.iter s pos) := h.alloc hB _
theorem str_len (t : ByteArray) : t.data.toList.length = t.size := by simp
theorem isLetter {c : UInt8} (h : letterB c = true) : 97 ≤ c.toNat ∧ c.toNat ≤ 122 := by simpa [letterB] using h
theorem noLetter {c : UInt8} (h : letterB c = false) : c.toNat < 97 ∨ 122 < c.toNat := by simp [letterB] at h; omega
/-- The rune that begins at a byte is a letter just if the byte is. -/
theorem rune_letter (t : ByteArray) (k : Nat) (h : k < t.size) (hl : letterB t[k] = true) : Utf8.decode t k = (t[k].toNat, 1) := decode_ascii t k h (by have := isLetter hl; omega)
theorem rune_other (t : ByteArray) (k : Nat) (h : k < t.size) (hl : letterB t[k] = false) : (Utf8.decode t k).1 < 97 ∨ 122 < (Utf8.decode t k).1 := by
  by_cases ha : t[k].toNat < 128
  · rw [decode_ascii t k h ha]; exact noLetter hl
  · have := (decode_high t k h (by omega)).1; omega

end Go.Proofs.Ytbadpmghlclfkaa
namespace Go.Proofs.Ytbadpmghlclfkaa
open Go.RowKit

def secV (x : Sec) : List Value := [.string x.name, .int .i64 x.seat, .string x.word, .string x.prompt]
def secA (x : Sec) : Value := .agg #[.string x.name, .int .i64 x.seat, .string x.word, .string x.prompt]
def secRow (l : List Sec) : List Value := l.flatMap secV
theorem secRow_len (l : List Sec) : (secRow l).length = l.length * 4 := by
  induction l with
  | nil => rfl
  | cons x l ih => unfold secRow at ih ⊢; rw [List.flatMap_cons, List.length_append, ih, List.length_cons]; show 4 + _ = _; omega
theorem secRow_at (l : List Sec) (j m : Nat) (hm : m < 4) (hj : j < l.length) : (secRow l)[j * 4 + m]? = (secV l[j])[m]? := by
  induction l generalizing j with
  | nil => simp at hj
  | cons x l ih =>
    unfold secRow at ih ⊢
    rw [List.flatMap_cons]
    cases j with
    | zero => rw [List.getElem?_append_left (by show _ < 4; omega)]; simp
    | succ j =>
      rw [List.getElem?_append_right (by show 4 ≤ _; omega), show (j + 1) * 4 + m - (secV x).length = j * 4 + m from by show (j + 1) * 4 + m - 4 = _; omega, ih j (by simpa using hj)]
      simp
/-- What the model's values are: a text is no longer than a length can be, a number is one of 64 bits. -/
def SecWf (x : Sec) : Prop := x.name.size ≤ maxLen ∧ x.word.size ≤ maxLen ∧ x.prompt.size ≤ maxLen ∧ (-9223372036854775808 ≤ x.seat ∧ x.seat ≤ 9223372036854775807)
/-- A slice that reads as these secrets. -/
def Secs (w : World) (v : Value) (l : List Sec) : Prop :=
  l.length ≤ maxLen ∧ (∀ x ∈ l, SecWf x) ∧ ∃ A cap, v = .slice A l.length cap ∧ (0 < l.length → ∃ b off, A = some ⟨b, off, none⟩ ∧ b < w.heap.size ∧ ∀ j (_ : j < l.length) m, m < 4 → w.cell? ⟨b, off + (j * 4 + m), none⟩ = (secV l[j])[m]?)
theorem Secs.form {w : World} {v : Value} {l : List Sec} (h : Secs w v l) : ∃ A cap, v = .slice A l.length cap := by obtain ⟨_, _, A, cap, rfl, _⟩ := h; exact ⟨A, cap, rfl⟩
theorem Secs.below {w w' : World} {v : Value} {l : List Sec} (h : Secs w v l) (k : Below w.heap.size w w') : Secs w' v l := by
  obtain ⟨h1, h2, A, cap, rfl, h3⟩ := h
  refine ⟨h1, h2, A, cap, rfl, fun h0 => ?_⟩
  obtain ⟨b, off, rfl, hb, hc⟩ := h3 h0
  exact ⟨b, off, rfl, Nat.lt_of_lt_of_le hb k.size, fun j hj m hm => (World.cell?_of_block (a := ⟨b, off + (j * 4 + m), none⟩) (k.block b hb)).trans (hc j hj m hm)⟩
theorem Secs.alloc {w : World} {v : Value} {l : List Sec} (h : Secs w v l) (o : Obj) : Secs (w.alloc o) v l := h.below ((Below.refl _ _).alloc (Nat.le_refl _) _)
theorem Secs.drew {w : World} {v : Value} {l : List Sec} (h : Secs w v l) : Secs w.drew v l := h
/-- The four cells of secret j. -/
theorem Secs.four {w : World} {A : Option Addr} {n cap : Nat} {l : List Sec} (h : Secs w (.slice A n cap) l) (j : Nat) (hj : j < l.length) :
    ∃ b off, A = some ⟨b, off, none⟩ ∧ b < w.heap.size ∧ w.cell? ⟨b, off + j * 4, none⟩ = some (.string l[j].name) ∧ w.cell? ⟨b, off + j * 4 + 1, none⟩ = some (.int .i64 l[j].seat) ∧
      w.cell? ⟨b, off + j * 4 + 2, none⟩ = some (.string l[j].word) ∧ w.cell? ⟨b, off + j * 4 + 3, none⟩ = some (.string l[j].prompt) := by
  obtain ⟨h1, h2, A', cap', e, h3⟩ := h
  cases e
  obtain ⟨b, off, rfl, hb, hc⟩ := h3 (by omega)
  exact ⟨b, off, rfl, hb, hc j hj 0 (by omega), hc j hj 1 (by omega), hc j hj 2 (by omega), hc j hj 3 (by omega)⟩
theorem Secs.wf {w : World} {v : Value} {l : List Sec} (h : Secs w v l) {j : Nat} (hj : j < l.length) : SecWf l[j] := h.2.1 _ (List.getElem_mem hj)
theorem Blk.four {w : World} {g : Nat} {t : TypeId} {x y z u : Value} (h : Blk w g t [x, y, z, u]) : w.cell? ⟨g, 0, none⟩ = some x ∧ w.cell? ⟨g, 1, none⟩ = some y ∧ w.cell? ⟨g, 2, none⟩ = some z ∧ w.cell? ⟨g, 3, none⟩ = some u :=
  ⟨h.cell 0 (by simp), h.cell 1 (by simp), h.cell 2 (by simp), h.cell 3 (by simp)⟩
/-- make([]T, n) of elements of more than one cell: some block of so many cells. -/
theorem wpList_make_some {P : Program} {w w0 : World} {ops : Array Oper} {rest : List Oper} {o : Oper} {a : Act} {Q : Exit → Act → World → Prop} (hg : o.guard = none) (l c : Operand) (t : TypeId) (hop : o.op = Op.makeSlice t l c)
    (base : Nat) (e : TypeId) (i : TypeInfo) (z : Value) (size bytes : Nat) (ht : P.underlying t = some (.slice e)) (hi : P.info? e = some i) (hz : i.zero = some z) (hsize : i.size = size) (hby : i.bytes = bytes)
    (kl kc : IntKind) (L C : Int) (n : Nat) (hl : a.eval l = .int kl L) (hc : a.eval c = .int kc C) (hL : L = (n : Int)) (hC : C = (n : Int)) (hn : bytes * n ≤ 281474976710656) (hn2 : n ≤ 1048576) (hbel : Below base w0 w) (hB : base ≤ w.heap.size)
    (h : ∀ w' cs, Blk w' w.heap.size e cs → cs.length = n * size → Below base w0 w' → wpList P ops Q rest (a.put o.dst (.slice (some ⟨w.heap.size, 0, none⟩) n n)) w') : wpList P ops Q (o :: rest) a w := by
  refine wpList_make_full w hg l c t hop base e i z size ht hi hz hsize kl kc L C n hl hc hL hC (by rw [hby]; omega) (by unfold maxLen; omega) hB ?_
  intro w' ho hg'
  rcases ho.2 with ⟨h', _⟩ | ⟨g, cap, cur, h', _, hh, _, _, hcs, htk⟩
  · simp at h'
  · simp at h'
    obtain ⟨rfl, rfl⟩ := h'
    exact h w' cur.toList (by unfold Blk; rw [hh]) (by simpa using hcs) (hbel.grown hg' hB (fun k hk => by simp at hk))
/-- A row of which the first k secrets are in. -/
def RowTill (cs : List Value) (l : List Sec) (k : Nat) : Prop := cs.length = l.length * 4 ∧ cs.take (k * 4) = secRow (l.take k)
theorem RowTill.none_ {cs : List Value} {l : List Sec} (h : cs.length = l.length * 4) : RowTill cs l 0 := ⟨h, by simp [secRow]⟩
theorem RowTill.all {cs : List Value} {l : List Sec} {k : Nat} (h : RowTill cs l k) (hk : l.length ≤ k) : cs = secRow l := by
  have h2 := h.2
  rw [List.take_of_length_le (by have := h.1; omega), List.take_of_length_le hk] at h2
  exact h2
theorem RowTill.put {cs : List Value} {l : List Sec} {k : Nat} (h : RowTill cs l k) (hk : k < l.length) :
    RowTill ((((cs.set (k * 4) (.string l[k].name)).set (k * 4 + 1) (.int .i64 l[k].seat)).set (k * 4 + 2) (.string l[k].word)).set (k * 4 + 3) (.string l[k].prompt)) l (k + 1) := by
  refine ⟨by simp [h.1], ?_⟩
  have hc := h.1
  apply List.ext_getElem?
  intro i
  have hr : (secRow (l.take (k + 1))).length = (k + 1) * 4 := by rw [secRow_len, List.length_take]; omega
  by_cases hi : i < (k + 1) * 4
  · rw [List.getElem?_take_of_lt hi]
    by_cases hlo : i < k * 4
    · rw [List.getElem?_set_ne (by omega), List.getElem?_set_ne (by omega), List.getElem?_set_ne (by omega), List.getElem?_set_ne (by omega)]
      have h2 : (cs.take (k * 4))[i]? = (secRow (l.take k))[i]? := by rw [h.2]
      rw [List.getElem?_take_of_lt hlo] at h2
      rw [h2, List.take_succ_eq_append_getElem hk]
      unfold secRow
      rw [List.flatMap_append, List.getElem?_append_left]
      have := secRow_len (l.take k)
      unfold secRow at this
      rw [this, List.length_take]; omega
    · obtain ⟨m, hm, rfl⟩ : ∃ m, m < 4 ∧ i = k * 4 + m := ⟨i - k * 4, by omega, by omega⟩
      rw [secRow_at (l.take (k + 1)) k m hm (by rw [List.length_take]; omega), List.getElem_take]
      rcases (show m = 0 ∨ m = 1 ∨ m = 2 ∨ m = 3 by omega) with rfl | rfl | rfl | rfl
      · rw [List.getElem?_set_ne (by omega), List.getElem?_set_ne (by omega), List.getElem?_set_ne (by omega), Nat.add_zero, List.getElem?_set_self (by omega)]; rfl
      · rw [List.getElem?_set_ne (by omega), List.getElem?_set_ne (by omega), List.getElem?_set_self (by simp; omega)]; rfl
      · rw [List.getElem?_set_ne (by omega), List.getElem?_set_self (by simp; omega)]; rfl
      · rw [List.getElem?_set_self (by simp; omega)]; rfl
  · rw [List.getElem?_eq_none (by rw [List.length_take]; omega), List.getElem?_eq_none (by omega)]
theorem Blk.set4 {w : World} {g : Nat} {t : TypeId} {cs : List Value} (h : Blk w g t cs) (i j k m : Nat) (a b c d : Value) :
    Blk ((((w.setCell ⟨g, i, none⟩ a).setCell ⟨g, j, none⟩ b).setCell ⟨g, k, none⟩ c).setCell ⟨g, m, none⟩ d) g t ((((cs.set i a).set j b).set k c).set m d) := (((h.set i a).set j b).set k c).set m d
theorem below_set4 {B : Nat} {w0 w : World} (h : Below B w0 w) {g : Nat} (hg : B ≤ g) (i j k m : Nat) (a b c d : Value) :
    Below B w0 ((((w.setCell ⟨g, i, none⟩ a).setCell ⟨g, j, none⟩ b).setCell ⟨g, k, none⟩ c).setCell ⟨g, m, none⟩ d) := (((h.setCell (p := ⟨g, i, none⟩) hg a).setCell (p := ⟨g, j, none⟩) hg b).setCell (p := ⟨g, k, none⟩) hg c).setCell (p := ⟨g, m, none⟩) hg d
/-- A call that answers a value, and writes into new memory alone. -/
def Gives (v : Value) (w : World) (e : Ending) (w' : World) : Prop := e = .returned v ∧ Below w.heap.size w w'

/-- How much is left when a secret of that size is taken. -/
def SzOut (p : Prop) (left : Int) (w : World) (e : Ending) (w' : World) : Prop := ∃ r : Int, e = .returned (.int .i64 r) ∧ (r = -1 ∨ (0 ≤ r ∧ r ≤ left ∧ p)) ∧ Below w.heap.size w w'
def secSmall (x : Sec) : Prop := x.name.size ≤ 1048576 ∧ x.word.size ≤ 1048576 ∧ x.prompt.size ≤ 1048576
def Small (l : List Sec) : Prop := l.length ≤ 1048576 ∧ ∀ x ∈ l, secSmall x
end Go.Proofs.Ytbadpmghlclfkaa
namespace Go.Proofs.Ytbadpmghlclfkaa
open Go.RowKit

/-- Two secrets that are alike. -/
def sameSec (x y : Sec) : Bool := decide (x.name = y.name) && decide (x.seat = y.seat) && decide (x.word = y.word) && decide (x.prompt = y.prompt)
theorem sameSec_self (x : Sec) : sameSec x x = true := by simp [sameSec]
end Go.Proofs.Ytbadpmghlclfkaa
