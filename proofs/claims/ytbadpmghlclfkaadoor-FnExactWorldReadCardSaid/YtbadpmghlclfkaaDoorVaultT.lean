/- Vaults as plain lists: which are right, places, shapes, twins, marks. WordRight of the program (a range over runes) and of the model. Slices of secrets: what can be read in them; how large, copied, compared. Slices of secrets, copied and compared by the laws. -/
import Derived.Test.YtbadpmghlclfkaaDoorGlobM
import Derived.Test.YtbadpmghlclfkaaDoorBase
import Derived.Laws.RangeAny
import Derived.Test.YtbadpmghlclfkaaDoorBlk
import Derived.Deep.RegionHeld3
namespace Go.Proofs.YtbadpmghlclfkaaDoor

def letterB (c : UInt8) : Bool := decide (97 ≤ c.toNat) && decide (c.toNat ≤ 122)
/-- A word. -/
def wordB (l : List UInt8) : Bool := decide (1 ≤ l.length) && decide (l.length ≤ 12) && l.all letterB
/-- A secret. -/
structure Sec where
  name : ByteArray
  seat : Int
  word : ByteArray
  prompt : ByteArray
def secOk (x : Sec) : Bool := wordB x.name.data.toList && decide (0 ≤ x.seat) && decide (x.seat ≤ 2) && wordB x.word.data.toList && globOk x.prompt.data.toList
def lessB (a b : ByteArray) : Bool := Op.bytesLess a.toList b.toList
/-- The name ahead of it is less. -/
def riseB (v : List Sec) : Nat → Bool
  | 0 => true
  | k + 1 => match v[k]?, v[k + 1]? with | some x, some y => lessB x.name y.name | _, _ => false
def okAt (v : List Sec) (k : Nat) : Bool := (match v[k]? with | some x => secOk x | none => false) && riseB v k
def upTo (v : List Sec) (k : Nat) : Bool := (List.range k).all (okAt v)
/-- A right vault. -/
def vaultB (v : List Sec) : Bool := decide (v.length ≤ 4) && upTo v v.length
theorem upTo_zero (v : List Sec) : upTo v 0 = true := rfl
theorem upTo_succ (v : List Sec) (k : Nat) : upTo v (k + 1) = (upTo v k && okAt v k) := by simp [upTo, List.range_succ]
theorem upTo_get {v : List Sec} {k j : Nat} (h : upTo v k = true) (hj : j < k) : okAt v j = true := List.all_eq_true.1 h j (by simpa using hj)
theorem vaultB_long {v : List Sec} (h : ¬ v.length ≤ 4) : vaultB v = false := by simp [vaultB, h]
theorem vaultB_bad {v : List Sec} {k : Nat} (hk : k < v.length) (h : okAt v k = false) : vaultB v = false := by
  cases hu : vaultB v with
  | false => rfl
  | true =>
    simp only [vaultB, Bool.and_eq_true] at hu
    rw [upTo_get hu.2 hk] at h; cases h
theorem vaultB_yes {v : List Sec} (h4 : v.length ≤ 4) (h : upTo v v.length = true) : vaultB v = true := by simp [vaultB, h4, h]
theorem vaultB_len {v : List Sec} (h : vaultB v = true) : v.length ≤ 4 := by simp only [vaultB, Bool.and_eq_true, decide_eq_true_eq] at h; exact h.1
theorem vaultB_at {v : List Sec} (h : vaultB v = true) {k : Nat} (hk : k < v.length) : okAt v k = true := by
  simp only [vaultB, Bool.and_eq_true] at h
  exact upTo_get h.2 hk
theorem okAt_of {v : List Sec} {k : Nat} (hk : k < v.length) : okAt v k = (secOk v[k] && riseB v k) := by simp [okAt, List.getElem?_eq_getElem hk]
theorem riseB_of {v : List Sec} {k : Nat} (hk : k + 1 < v.length) : riseB v (k + 1) = lessB v[k].name v[k + 1].name := by
  simp [riseB, List.getElem?_eq_getElem hk, List.getElem?_eq_getElem (show k < v.length by omega)]
theorem vaultB_sec {v : List Sec} (h : vaultB v = true) {k : Nat} (hk : k < v.length) : secOk v[k] = true := by
  have := vaultB_at h hk
  rw [okAt_of hk, Bool.and_eq_true] at this
  exact this.1
theorem secOk_parts {x : Sec} (h : secOk x = true) : wordB x.name.data.toList = true ∧ 0 ≤ x.seat ∧ x.seat ≤ 2 ∧ wordB x.word.data.toList = true ∧ globOk x.prompt.data.toList = true := by
  simp only [secOk, Bool.and_eq_true, decide_eq_true_eq] at h
  exact ⟨h.1.1.1.1, h.1.1.1.2, h.1.1.2, h.1.2, h.2⟩
theorem word_parts {l : List UInt8} (h : wordB l = true) : 1 ≤ l.length ∧ l.length ≤ 12 ∧ ∀ c ∈ l, 97 ≤ c.toNat ∧ c.toNat ≤ 122 := by
  simp only [wordB, Bool.and_eq_true, decide_eq_true_eq, List.all_eq_true] at h
  refine ⟨h.1.1, h.1.2, fun c hc => ?_⟩
  have := h.2 c hc
  simpa [letterB] using this
theorem word_short {l : List UInt8} (h : ¬ 1 ≤ l.length ∨ ¬ l.length ≤ 12) : wordB l = false := by
  rcases h with h | h <;> simp [wordB, h]
theorem word_bad {l : List UInt8} {k : Nat} (hk : k < l.length) (h : letterB l[k] = false) : wordB l = false := by
  have : l.all letterB = false := by
    rw [List.all_eq_false]
    exact ⟨l[k], List.getElem_mem hk, by simp [h]⟩
  simp [wordB, this]
theorem word_yes {l : List UInt8} (h1 : 1 ≤ l.length) (h2 : l.length ≤ 12) (h : ∀ k (hk : k < l.length), letterB l[k] = true) : wordB l = true := by
  have : l.all letterB = true := by
    rw [List.all_eq_true]
    intro c hc
    obtain ⟨k, hk, rfl⟩ := List.mem_iff_getElem.1 hc
    exact h k hk
  simp [wordB, this, h1, h2]
theorem bytesLess_irrefl : ∀ a : List UInt8, Op.bytesLess a a = false
  | [] => by simp [Op.bytesLess]
  | x :: r => by simp [Op.bytesLess, bytesLess_irrefl r]
theorem bytesLess_trans : ∀ a b c : List UInt8, Op.bytesLess a b = true → Op.bytesLess b c = true → Op.bytesLess a c = true
  | _, [], _, h, _ => by simp [Op.bytesLess] at h
  | _, _ :: _, [], _, h => by simp [Op.bytesLess] at h
  | [], _ :: _, _ :: _, _, _ => by simp [Op.bytesLess]
  | x :: r, y :: s, z :: t, h1, h2 => by
    simp only [Op.bytesLess, Bool.or_eq_true, Bool.and_eq_true, decide_eq_true_eq, beq_iff_eq] at h1 h2 ⊢
    rcases h1 with h1 | ⟨rfl, h1⟩
    · rcases h2 with h2 | ⟨rfl, h2⟩
      · exact .inl (UInt8.lt_trans h1 h2)
      · exact .inl h1
    · rcases h2 with h2 | ⟨rfl, h2⟩
      · exact .inl h2
      · exact .inr ⟨rfl, bytesLess_trans r s t h1 h2⟩
theorem rise_lt {v : List Sec} (h : vaultB v = true) : ∀ (d j : Nat) (hk : j + d + 1 < v.length), lessB v[j].name v[j + d + 1].name = true
  | 0, j, hk => by
    have := vaultB_at h hk
    rw [okAt_of hk, Bool.and_eq_true, riseB_of hk] at this
    exact this.2
  | d + 1, j, hk => by
    have h1 := rise_lt h d j (by omega)
    have h2 := vaultB_at h hk
    rw [okAt_of hk, Bool.and_eq_true, riseB_of hk] at h2
    exact bytesLess_trans _ _ _ h1 h2.2
/-- No two secrets of a right vault have one name. -/
theorem names_apart {v : List Sec} (h : vaultB v = true) {j k : Nat} (hj : j < k) (hk : k < v.length) : v[j].name ≠ v[k].name := by
  intro e
  obtain ⟨d, rfl⟩ : ∃ d, k = j + d + 1 := ⟨k - j - 1, by omega⟩
  have := rise_lt h d j hk
  rw [e] at this
  unfold lessB at this
  rw [bytesLess_irrefl] at this
  cases this
/-- The place of a name. -/
def placeOf (v : List Sec) (x : ByteArray) : Int := match v.findIdx? (fun s => decide (s.name = x)) with | some k => (k : Int) | none => -1
theorem place_some {v : List Sec} {x : ByteArray} {k : Nat} (hk : k < v.length) (h : v[k].name = x) (hn : ∀ j (hj : j < k), (v[j]'(by omega)).name ≠ x) : placeOf v x = (k : Int) := by
  have : v.findIdx? (fun s => decide (s.name = x)) = some k := by
    rw [List.findIdx?_eq_some_iff_getElem]
    exact ⟨hk, by simpa using h, fun j hj => by simpa using hn j hj⟩
  unfold placeOf
  rw [this]
theorem place_none {v : List Sec} {x : ByteArray} (hn : ∀ j (hj : j < v.length), v[j].name ≠ x) : placeOf v x = -1 := by
  have : v.findIdx? (fun s => decide (s.name = x)) = none := by
    rw [List.findIdx?_eq_none_iff]
    intro s hs
    obtain ⟨j, hj, rfl⟩ := List.mem_iff_getElem.1 hs
    simpa using hn j hj
  unfold placeOf
  rw [this]
def secretAt (v : List Sec) (x : ByteArray) : Int := if vaultB v = true then placeOf v x else -1
/-- Nothing but the letters of the words differ. -/
def frameB (x y : Sec) : Bool := decide (x.name = y.name) && decide (x.seat = y.seat) && decide (x.prompt = y.prompt) && decide (x.word.size = y.word.size)
def frameAt (a b : List Sec) (k : Nat) : Bool := match a[k]?, b[k]? with | some x, some y => frameB x y | _, _ => false
def framesTo (a b : List Sec) (k : Nat) : Bool := (List.range k).all (frameAt a b)
def shapeB (a b : List Sec) : Bool := vaultB a && vaultB b && decide (a.length = b.length) && framesTo a b a.length
theorem framesTo_succ (a b : List Sec) (k : Nat) : framesTo a b (k + 1) = (framesTo a b k && frameAt a b k) := by simp [framesTo, List.range_succ]
theorem frameAt_of {a b : List Sec} {k : Nat} (h1 : k < a.length) (h2 : k < b.length) : frameAt a b k = frameB a[k] b[k] := by simp [frameAt, List.getElem?_eq_getElem h1, List.getElem?_eq_getElem h2]
theorem shapeB_bad {a b : List Sec} {k : Nat} (hk : k < a.length) (h : frameAt a b k = false) : shapeB a b = false := by
  have : framesTo a b a.length = false := by
    cases hu : framesTo a b a.length with
    | false => rfl
    | true => rw [List.all_eq_true.1 hu k (by simpa using hk)] at h; cases h
  simp [shapeB, this]
/-- A letter n places behind. -/
def turnB (n : Nat) (c : UInt8) : UInt8 := UInt8.ofNat (97 + (c.toNat - 97 + n) % 26)
def turnL (n : Nat) (l : List UInt8) : List UInt8 := l.map (turnB n)
def twinS (n : Nat) (x : Sec) : Sec := { x with word := ⟨(turnL n x.word.data.toList).toArray⟩ }
def twinL (v : List Sec) (n : Int) : List Sec := if vaultB v = true ∧ 0 ≤ n ∧ n ≤ 25 then v.map (twinS n.toNat) else []
def marksOf (v : List Sec) : Int := if vaultB v = true then 2 ^ v.length - 1 else 0
end Go.Proofs.YtbadpmghlclfkaaDoor
namespace Go.Proofs.YtbadpmghlclfkaaDoor
open Go.RowKit

theorem below_iter {B : Nat} {w0 w : World} (h : Below B w0 w) (hB : B ≤ w.heap.size) (s : ByteArray) (pos : Nat) : Below B w0 (w.iter s pos) := h.alloc hB _
theorem str_len (t : ByteArray) : t.data.toList.length = t.size := by simp
theorem isLetter {c : UInt8} (h : letterB c = true) : 97 ≤ c.toNat ∧ c.toNat ≤ 122 := by simpa [letterB] using h
theorem noLetter {c : UInt8} (h : letterB c = false) : c.toNat < 97 ∨ 122 < c.toNat := by simp [letterB] at h; omega
/-- The rune that begins at a byte is a letter just if the byte is. -/
theorem rune_letter (t : ByteArray) (k : Nat) (h : k < t.size) (hl : letterB t[k] = true) : Utf8.decode t k = (t[k].toNat, 1) := decode_ascii t k h (by have := isLetter hl; omega)
theorem rune_other (t : ByteArray) (k : Nat) (h : k < t.size) (hl : letterB t[k] = false) : (Utf8.decode t k).1 < 97 ∨ 122 < (Utf8.decode t k).1 := by
  by_cases ha : t[k].toNat < 128
  · rw [decode_ascii t k h ha]; exact noLetter hl
  · have := (decode_high t k h (by omega)).1; omega

set_option maxRecDepth 20000 in
set_option maxHeartbeats 1000000 in
theorem implWord_any (t : ByteArray) (ht : t.size ≤ maxLen) (w : World) :
    Calls Tryd.prog 114 #[.string t] w fun e w' => e = .returned (.bool (wordB t.data.toList)) ∧ Below w.heap.size w w' := by
  have hlen := Lib.hid (str_len t)
  unfold maxLen at ht
  by_cases h1 : 1 ≤ t.size
  · by_cases h12 : t.size ≤ 12
    · go_enter Tryd.func114, Tryd.ntmps114
      have h1' : ¬ (t.size : Int) < 1 := by omega
      have h12' : ¬ (12 : Int) < (t.size : Int) := by omega
      go_wp2
      go_loopw [] (fun wr => ∃ k : Nat, k ≤ t.size ∧ wr = w.iter t k ∧ Hid (∀ j (hj : j < k) (h : j < t.size), letterB t[j] = true)) (fun wr => t.size - wr.iterPos w.heap.size)
      case atStart => exact ⟨0, by omega, rfl, Lib.hid (fun j hj => by omega)⟩
      case round =>
        obtain ⟨k, hk, rfl, hall⟩ := hrel
        by_cases hlt : k < t.size
        · have hnx : ∀ ty, (Instr.next (.pointer (some ⟨w.heap.size, 0, none⟩)) true ty).run Tryd.prog (w.iter t k) = _ := fun ty => run_next_any w t k ty hlt
          cases hl : letterB t[k] with
          | true =>
            have hd := rune_letter t k hlt hl
            rw [hd] at hnx
            have hb := isLetter hl
            have c1 : ¬ (t[k].toNat : Int) < 97 := by omega
            have c2 : ¬ (122 : Int) < (t[k].toNat : Int) := by omega
            have hall2 := Lib.hid (fun j (hj : j < k + 1) (h : j < t.size) => (show letterB t[j] = true from by
              by_cases e : j = k
              · subst e; exact hl
              · exact hall.out j (by omega) h))
            clear hd hb hl hall
            go_wp2
            go_roundw
            case rel => exact ⟨k + 1, by omega, rfl, hall2⟩
            case measure => simp; omega
          | false =>
            have hd := rune_other t k hlt hl
            have hbad := Lib.hid (word_bad (l := t.data.toList) (k := k) (by rw [hlen.out]; exact hlt) hl)
            obtain ⟨r, hr⟩ : ∃ r, r = (Utf8.decode t k).1 := ⟨_, rfl⟩
            rw [← hr] at hnx hd
            clear hl hall hr
            by_cases c1 : r < 97
            · have c1' : (r : Int) < 97 := by omega
              go_wp2
              go_ret
              exact ⟨by rw [hbad.out]; rfl, below_iter (Below.refl _ _) (Nat.le_refl _) _ _⟩
            · have c1' : ¬ (r : Int) < 97 := by omega
              have c2' : (122 : Int) < (r : Int) := by omega
              go_wp2
              go_ret
              exact ⟨by rw [hbad.out]; rfl, below_iter (Below.refl _ _) (Nat.le_refl _) _ _⟩
        · have hnx : ∀ ty, (Instr.next (.pointer (some ⟨w.heap.size, 0, none⟩)) true ty).run Tryd.prog (w.iter t k) = _ := fun ty => run_next_end w t k ty hlt
          have hyes := Lib.hid (word_yes (l := t.data.toList) (by rw [hlen.out]; exact h1) (by rw [hlen.out]; exact h12) fun j hj => hall.out j (by rw [hlen.out] at hj; omega) (by rw [hlen.out] at hj; omega))
          go_wp2
          go_ret
          exact ⟨by rw [hyes.out]; rfl, below_iter (Below.refl _ _) (Nat.le_refl _) _ _⟩
    · have hbad := Lib.hid (word_short (l := t.data.toList) (by rw [hlen.out]; exact .inr h12))
      have h1' : ¬ (t.size : Int) < 1 := by omega
      have h12' : (12 : Int) < (t.size : Int) := by omega
      go_enter Tryd.func114, Tryd.ntmps114
      go_wp2
      go_ret
      exact ⟨by rw [hbad.out]; rfl, Below.refl _ _⟩
  · have hbad := Lib.hid (word_short (l := t.data.toList) (by rw [hlen.out]; exact .inl h1))
    have h1' : (t.size : Int) < 1 := by omega
    go_enter Tryd.func114, Tryd.ntmps114
    go_wp2
    go_ret
    exact ⟨by rw [hbad.out]; rfl, Below.refl _ _⟩

set_option maxHeartbeats 1000000 in
theorem specWord_any (t : ByteArray) (ht : t.size ≤ maxLen) (w : World) :
    Calls Tryd.prog 91 #[.string t] w fun e w' => e = .returned (.bool (wordB t.data.toList)) ∧ w = w' := by
  have hlen := Lib.hid (str_len t)
  unfold maxLen at ht
  go_enter Tryd.func91, Tryd.ntmps91
  go_wp2
  go_loop [3] (fun i => ∃ k : Nat, k ≤ t.size ∧ i = .int .i64 (k : Int) ∧ Hid (∀ j (hj : j < k) (h : j < t.size), letterB t[j] = true)) (fun i => t.size - (intOf i).toNat)
  case atStart => exact ⟨0, by omega, rfl, Lib.hid (fun j hj => by omega)⟩
  case round =>
    obtain ⟨k, hk, rfl, hall⟩ := hrel
    by_cases hlt : k < t.size
    · have hlt' : (k : Int) < (t.size : Int) := by omega
      cases hl : letterB t[k] with
      | true =>
        have hb := isLetter hl
        have c1 : ¬ (t[k].toNat : Int) < 97 := by omega
        have c2 : ¬ (122 : Int) < (t[k].toNat : Int) := by omega
        have hall2 := Lib.hid (fun j (hj : j < k + 1) (h : j < t.size) => (show letterB t[j] = true from by
          by_cases e : j = k
          · subst e; exact hl
          · exact hall.out j (by omega) h))
        clear hb hl hall
        go_wp2
        go_round
        case rel => exact ⟨k + 1, by omega, by go_num, hall2⟩
        case measure => simp [intOf]; omega
      | false =>
        have hd := noLetter hl
        have hbad := Lib.hid (word_bad (l := t.data.toList) (k := k) (by rw [hlen.out]; exact hlt) hl)
        clear hl hall
        by_cases c1 : t[k].toNat < 97
        · have c1' : (t[k].toNat : Int) < 97 := by omega
          go_wp2
          go_ret
          exact ⟨by rw [hbad.out]; rfl, rfl⟩
        · have c1' : ¬ (t[k].toNat : Int) < 97 := by omega
          have c2' : (122 : Int) < (t[k].toNat : Int) := by omega
          go_wp2
          go_ret
          exact ⟨by rw [hbad.out]; rfl, rfl⟩
    · have hlt' : ¬ (k : Int) < (t.size : Int) := by omega
      by_cases h1 : 1 ≤ t.size
      · have h1' : (1 : Int) ≤ (t.size : Int) := by omega
        by_cases h12 : t.size ≤ 12
        · have h12' : (t.size : Int) ≤ 12 := by omega
          have hyes := Lib.hid (word_yes (l := t.data.toList) (by rw [hlen.out]; exact h1) (by rw [hlen.out]; exact h12) fun j hj => hall.out j (by rw [hlen.out] at hj; omega) (by rw [hlen.out] at hj; omega))
          go_wp2
          go_ret
          exact ⟨by rw [hyes.out]; rfl, rfl⟩
        · have h12' : ¬ (t.size : Int) ≤ 12 := by omega
          have hbad := Lib.hid (word_short (l := t.data.toList) (by rw [hlen.out]; exact .inr h12))
          go_wp2
          go_ret
          exact ⟨by rw [hbad.out]; rfl, rfl⟩
      · have h1' : ¬ (1 : Int) ≤ (t.size : Int) := by omega
        have hbad := Lib.hid (word_short (l := t.data.toList) (by rw [hlen.out]; exact .inl h1))
        go_wp2
        go_ret
        exact ⟨by rw [hbad.out]; rfl, rfl⟩
end Go.Proofs.YtbadpmghlclfkaaDoor
namespace Go.Proofs.YtbadpmghlclfkaaDoor
open Go.RowKit

def secV (x : Sec) : List Value := [.string x.name, .int .i64 x.seat, .string x.word, .string x.prompt]
def secA (x : Sec) : Value := .agg #[.string x.name, .int .i64 x.seat, .string x.word, .string x.prompt]
def secRow (l : List Sec) : List Value := l.flatMap secV
theorem secRow_len (l : List Sec) : (secRow l).length = l.length * 4 := by
  induction l with
  | nil => rfl
  | cons x l ih => unfold secRow at ih ⊢; rw [List.flatMap_cons, List.length_append, ih, List.length_cons]; show 4 + _ = _; omega
theorem secRow_at (l : List Sec) (j m : Nat) (hm : m < 4) (hj : j < l.length) : (secRow l)[j * 4 + m]? = (secV l[j])[m]? := by
  induction l generalizing j with
  | nil => simp at hj
  | cons x l ih =>
    unfold secRow at ih ⊢
    rw [List.flatMap_cons]
    cases j with
    | zero => rw [List.getElem?_append_left (by show _ < 4; omega)]; simp
    | succ j =>
      rw [List.getElem?_append_right (by show 4 ≤ _; omega), show (j + 1) * 4 + m - (secV x).length = j * 4 + m from by show (j + 1) * 4 + m - 4 = _; omega, ih j (by simpa using hj)]
      simp
/-- What the model's values are: a text is no longer than a length can be, a number is one of 64 bits. -/
def SecWf (x : Sec) : Prop := x.name.size ≤ maxLen ∧ x.word.size ≤ maxLen ∧ x.prompt.size ≤ maxLen ∧ (-9223372036854775808 ≤ x.seat ∧ x.seat ≤ 9223372036854775807)
/-- A slice that reads as these secrets. -/
def Secs (w : World) (v : Value) (l : List Sec) : Prop :=
  l.length ≤ maxLen ∧ (∀ x ∈ l, SecWf x) ∧ ∃ A cap, v = .slice A l.length cap ∧ (0 < l.length → ∃ b off, A = some ⟨b, off, none⟩ ∧ b < w.heap.size ∧ ∀ j (_ : j < l.length) m, m < 4 → w.cell? ⟨b, off + (j * 4 + m), none⟩ = (secV l[j])[m]?)
theorem Secs.form {w : World} {v : Value} {l : List Sec} (h : Secs w v l) : ∃ A cap, v = .slice A l.length cap := by obtain ⟨_, _, A, cap, rfl, _⟩ := h; exact ⟨A, cap, rfl⟩
theorem Secs.below {w w' : World} {v : Value} {l : List Sec} (h : Secs w v l) (k : Below w.heap.size w w') : Secs w' v l := by
  obtain ⟨h1, h2, A, cap, rfl, h3⟩ := h
  refine ⟨h1, h2, A, cap, rfl, fun h0 => ?_⟩
  obtain ⟨b, off, rfl, hb, hc⟩ := h3 h0
  exact ⟨b, off, rfl, Nat.lt_of_lt_of_le hb k.size, fun j hj m hm => (World.cell?_of_block (a := ⟨b, off + (j * 4 + m), none⟩) (k.block b hb)).trans (hc j hj m hm)⟩
theorem Secs.alloc {w : World} {v : Value} {l : List Sec} (h : Secs w v l) (o : Obj) : Secs (w.alloc o) v l := h.below ((Below.refl _ _).alloc (Nat.le_refl _) _)
theorem Secs.drew {w : World} {v : Value} {l : List Sec} (h : Secs w v l) : Secs w.drew v l := h
/-- The four cells of secret j. -/
theorem Secs.four {w : World} {A : Option Addr} {n cap : Nat} {l : List Sec} (h : Secs w (.slice A n cap) l) (j : Nat) (hj : j < l.length) :
    ∃ b off, A = some ⟨b, off, none⟩ ∧ b < w.heap.size ∧ w.cell? ⟨b, off + j * 4, none⟩ = some (.string l[j].name) ∧ w.cell? ⟨b, off + j * 4 + 1, none⟩ = some (.int .i64 l[j].seat) ∧
      w.cell? ⟨b, off + j * 4 + 2, none⟩ = some (.string l[j].word) ∧ w.cell? ⟨b, off + j * 4 + 3, none⟩ = some (.string l[j].prompt) := by
  obtain ⟨h1, h2, A', cap', e, h3⟩ := h
  cases e
  obtain ⟨b, off, rfl, hb, hc⟩ := h3 (by omega)
  exact ⟨b, off, rfl, hb, hc j hj 0 (by omega), hc j hj 1 (by omega), hc j hj 2 (by omega), hc j hj 3 (by omega)⟩
theorem Secs.wf {w : World} {v : Value} {l : List Sec} (h : Secs w v l) {j : Nat} (hj : j < l.length) : SecWf l[j] := h.2.1 _ (List.getElem_mem hj)
theorem Blk.four {w : World} {g : Nat} {t : TypeId} {x y z u : Value} (h : Blk w g t [x, y, z, u]) : w.cell? ⟨g, 0, none⟩ = some x ∧ w.cell? ⟨g, 1, none⟩ = some y ∧ w.cell? ⟨g, 2, none⟩ = some z ∧ w.cell? ⟨g, 3, none⟩ = some u :=
  ⟨h.cell 0 (by simp), h.cell 1 (by simp), h.cell 2 (by simp), h.cell 3 (by simp)⟩
theorem Tryd.info100 : (Tryd.prog.info? 100).map (fun i => (i.zero, i.size, i.bytes)) = some (some (.agg #[.string ByteArray.empty, .int .i64 0, .string ByteArray.empty, .string ByteArray.empty]), 4, 56) := by kernel_rfl
/-- make([]T, n) of elements of more than one cell: some block of so many cells. -/
theorem wpList_make_some {P : Program} {w w0 : World} {ops : Array Oper} {rest : List Oper} {o : Oper} {a : Act} {Q : Exit → Act → World → Prop} (hg : o.guard = none) (l c : Operand) (t : TypeId) (hop : o.op = Op.makeSlice t l c)
    (base : Nat) (e : TypeId) (i : TypeInfo) (z : Value) (size bytes : Nat) (ht : P.underlying t = some (.slice e)) (hi : P.info? e = some i) (hz : i.zero = some z) (hsize : i.size = size) (hby : i.bytes = bytes)
    (kl kc : IntKind) (L C : Int) (n : Nat) (hl : a.eval l = .int kl L) (hc : a.eval c = .int kc C) (hL : L = (n : Int)) (hC : C = (n : Int)) (hn : bytes * n ≤ 281474976710656) (hn2 : n ≤ 1048576) (hbel : Below base w0 w) (hB : base ≤ w.heap.size)
    (h : ∀ w' cs, Blk w' w.heap.size e cs → cs.length = n * size → Below base w0 w' → wpList P ops Q rest (a.put o.dst (.slice (some ⟨w.heap.size, 0, none⟩) n n)) w') : wpList P ops Q (o :: rest) a w := by
  refine wpList_make_full w hg l c t hop base e i z size ht hi hz hsize kl kc L C n hl hc hL hC (by rw [hby]; omega) (by unfold maxLen; omega) hB ?_
  intro w' ho hg'
  rcases ho.2 with ⟨h', _⟩ | ⟨g, cap, cur, h', _, hh, _, _, hcs, htk⟩
  · simp at h'
  · simp at h'
    obtain ⟨rfl, rfl⟩ := h'
    exact h w' cur.toList (by unfold Blk; rw [hh]) (by simpa using hcs) (hbel.grown hg' hB (fun k hk => by simp at hk))
/-- A row of which the first k secrets are in. -/
def RowTill (cs : List Value) (l : List Sec) (k : Nat) : Prop := cs.length = l.length * 4 ∧ cs.take (k * 4) = secRow (l.take k)
theorem RowTill.none_ {cs : List Value} {l : List Sec} (h : cs.length = l.length * 4) : RowTill cs l 0 := ⟨h, by simp [secRow]⟩
theorem RowTill.all {cs : List Value} {l : List Sec} {k : Nat} (h : RowTill cs l k) (hk : l.length ≤ k) : cs = secRow l := by
  have h2 := h.2
  rw [List.take_of_length_le (by have := h.1; omega), List.take_of_length_le hk] at h2
  exact h2
theorem RowTill.put {cs : List Value} {l : List Sec} {k : Nat} (h : RowTill cs l k) (hk : k < l.length) :
    RowTill ((((cs.set (k * 4) (.string l[k].name)).set (k * 4 + 1) (.int .i64 l[k].seat)).set (k * 4 + 2) (.string l[k].word)).set (k * 4 + 3) (.string l[k].prompt)) l (k + 1) := by
  refine ⟨by simp [h.1], ?_⟩
  have hc := h.1
  apply List.ext_getElem?
  intro i
  have hr : (secRow (l.take (k + 1))).length = (k + 1) * 4 := by rw [secRow_len, List.length_take]; omega
  by_cases hi : i < (k + 1) * 4
  · rw [List.getElem?_take_of_lt hi]
    by_cases hlo : i < k * 4
    · rw [List.getElem?_set_ne (by omega), List.getElem?_set_ne (by omega), List.getElem?_set_ne (by omega), List.getElem?_set_ne (by omega)]
      have h2 : (cs.take (k * 4))[i]? = (secRow (l.take k))[i]? := by rw [h.2]
      rw [List.getElem?_take_of_lt hlo] at h2
      rw [h2, List.take_succ_eq_append_getElem hk]
      unfold secRow
      rw [List.flatMap_append, List.getElem?_append_left]
      have := secRow_len (l.take k)
      unfold secRow at this
      rw [this, List.length_take]; omega
    · obtain ⟨m, hm, rfl⟩ : ∃ m, m < 4 ∧ i = k * 4 + m := ⟨i - k * 4, by omega, by omega⟩
      rw [secRow_at (l.take (k + 1)) k m hm (by rw [List.length_take]; omega), List.getElem_take]
      rcases (show m = 0 ∨ m = 1 ∨ m = 2 ∨ m = 3 by omega) with rfl | rfl | rfl | rfl
      · rw [List.getElem?_set_ne (by omega), List.getElem?_set_ne (by omega), List.getElem?_set_ne (by omega), Nat.add_zero, List.getElem?_set_self (by omega)]; rfl
      · rw [List.getElem?_set_ne (by omega), List.getElem?_set_ne (by omega), List.getElem?_set_self (by simp; omega)]; rfl
      · rw [List.getElem?_set_ne (by omega), List.getElem?_set_self (by simp; omega)]; rfl
      · rw [List.getElem?_set_self (by simp; omega)]; rfl
  · rw [List.getElem?_eq_none (by rw [List.length_take]; omega), List.getElem?_eq_none (by omega)]
theorem Blk.set4 {w : World} {g : Nat} {t : TypeId} {cs : List Value} (h : Blk w g t cs) (i j k m : Nat) (a b c d : Value) :
    Blk ((((w.setCell ⟨g, i, none⟩ a).setCell ⟨g, j, none⟩ b).setCell ⟨g, k, none⟩ c).setCell ⟨g, m, none⟩ d) g t ((((cs.set i a).set j b).set k c).set m d) := (((h.set i a).set j b).set k c).set m d
theorem below_set4 {B : Nat} {w0 w : World} (h : Below B w0 w) {g : Nat} (hg : B ≤ g) (i j k m : Nat) (a b c d : Value) :
    Below B w0 ((((w.setCell ⟨g, i, none⟩ a).setCell ⟨g, j, none⟩ b).setCell ⟨g, k, none⟩ c).setCell ⟨g, m, none⟩ d) := (((h.setCell (p := ⟨g, i, none⟩) hg a).setCell (p := ⟨g, j, none⟩) hg b).setCell (p := ⟨g, k, none⟩) hg c).setCell (p := ⟨g, m, none⟩) hg d
/-- A vault in a block of its own. -/
def OwnSecs (w : World) (base : Nat) (v : Value) (l : List Sec) : Prop := l.length ≤ 1048576 ∧ (∀ x ∈ l, SecWf x) ∧ ∃ g, v = .slice (some ⟨g, 0, none⟩) l.length l.length ∧ base ≤ g ∧ Blk w g 100 (secRow l)
theorem OwnSecs.secs {w : World} {base : Nat} {v : Value} {l : List Sec} (h : OwnSecs w base v l) : Secs w v l := by
  obtain ⟨h1, h2, g, rfl, hb, hk⟩ := h
  refine ⟨by unfold maxLen; omega, h2, _, _, rfl, fun h0 => ⟨g, 0, rfl, hk.lt, fun j hj m hm => ?_⟩⟩
  rw [Nat.zero_add, hk.cell?, secRow_at l j m hm hj]
theorem OwnSecs.below {w w' : World} {base : Nat} {v : Value} {l : List Sec} (h : OwnSecs w base v l) (k : Below w.heap.size w w') : OwnSecs w' base v l := by
  obtain ⟨h1, h2, g, rfl, hb, hk⟩ := h
  exact ⟨h1, h2, g, rfl, hb, hk.up k⟩
theorem OwnSecs.alloc {w : World} {base : Nat} {v : Value} {l : List Sec} (h : OwnSecs w base v l) (o : Obj) : OwnSecs (w.alloc o) base v l := h.below ((Below.refl _ _).alloc (Nat.le_refl _) _)
theorem OwnSecs.drew {w : World} {base : Nat} {v : Value} {l : List Sec} (h : OwnSecs w base v l) : OwnSecs w.drew base v l := h
theorem OwnSecs.form {w : World} {base : Nat} {v : Value} {l : List Sec} (h : OwnSecs w base v l) : ∃ g, v = .slice (some ⟨g, 0, none⟩) l.length l.length := by obtain ⟨_, _, g, rfl, _⟩ := h; exact ⟨g, rfl⟩
/-- A call that answers a value, and writes into new memory alone. -/
def Gives (v : Value) (w : World) (e : Ending) (w' : World) : Prop := e = .returned v ∧ Below w.heap.size w w'

/-- How much is left when a secret of that size is taken. -/
def SzOut (p : Prop) (left : Int) (w : World) (e : Ending) (w' : World) : Prop := ∃ r : Int, e = .returned (.int .i64 r) ∧ (r = -1 ∨ (0 ≤ r ∧ r ≤ left ∧ p)) ∧ Below w.heap.size w w'
def secSmall (x : Sec) : Prop := x.name.size ≤ 1048576 ∧ x.word.size ≤ 1048576 ∧ x.prompt.size ≤ 1048576
def Small (l : List Sec) : Prop := l.length ≤ 1048576 ∧ ∀ x ∈ l, secSmall x
set_option maxHeartbeats 1000000 in
theorem szSec_any (x : Sec) (left : Int) (w : World) (hx : SecWf x) (h0 : 0 ≤ left) (h1 : left ≤ 1048576) :
    Calls Tryd.prog 63 #[secA x, .int .i64 left] w (SzOut (secSmall x) left w) := by
  have hb := Lib.hid ((Below.refl w.heap.size w).alloc (Nat.le_refl _) (.cells #[.string x.name, .int .i64 x.seat, .string x.word, .string x.prompt] 95))
  obtain ⟨n1, n2, n3, -⟩ := hx
  unfold maxLen at n1 n2 n3
  have n1' : (x.name.size : Int) ≤ 9223372036854775807 := by omega
  have n2' : (x.word.size : Int) ≤ 9223372036854775807 := by omega
  have n3' : (x.prompt.size : Int) ≤ 9223372036854775807 := by omega
  unfold secA
  by_cases c1 : left - x.name.size < 0
  · go_enter Tryd.func63, Tryd.ntmps63
    go_wp2
    go_ret
    exact ⟨-1, rfl, .inl rfl, hb.out⟩
  · by_cases c2 : left - x.name.size - x.word.size < 0
    · go_enter Tryd.func63, Tryd.ntmps63
      go_wp2
      go_ret
      exact ⟨-1, rfl, .inl rfl, hb.out⟩
    · by_cases c3 : left - x.name.size - x.word.size - x.prompt.size < 0
      · go_enter Tryd.func63, Tryd.ntmps63
        go_wp2
        go_ret
        exact ⟨-1, rfl, .inl rfl, hb.out⟩
      · have hend := Lib.hid (show 0 ≤ left - x.name.size - x.word.size - x.prompt.size ∧ left - x.name.size - x.word.size - x.prompt.size ≤ left ∧ secSmall x from ⟨by omega, by omega, by omega, by omega, by omega⟩)
        go_enter Tryd.func63, Tryd.ntmps63
        go_wp2
        go_ret
        exact ⟨_, rfl, .inr hend.out, hb.out⟩

set_option maxHeartbeats 1000000 in
theorem szSecs_any (v : Value) (l : List Sec) (left : Int) (w : World) (hv : Secs w v l) (h0 : 0 ≤ left) (h1 : left ≤ 1048576) :
    Calls Tryd.prog 26 #[v, .int .i64 left] w (SzOut (Small l) left w) := by
  obtain ⟨A, cap, rfl⟩ := hv.form
  have hl := hv.1
  unfold maxLen at hl
  have hl' : (l.length : Int) ≤ 9223372036854775807 := by omega
  have hv' := Lib.hid hv
  clear hv
  by_cases c1 : left - l.length < 0
  · go_enter Tryd.func26, Tryd.ntmps26
    go_wp2
    go_ret
    exact ⟨-1, rfl, .inl rfl, Below.refl _ _⟩
  · have hll : l.length ≤ 1048576 := by omega
    have hlft : left - l.length ≤ left := by omega
    go_enter Tryd.func26, Tryd.ntmps26
    go_wp2
    go_loopw [1, 5] (fun u i wr => ∃ (k : Nat) (r : Int), k ≤ l.length ∧ i = .int .i64 (k : Int) ∧ u = .int .i64 r ∧ 0 ≤ r ∧ r ≤ left ∧ Hid (∀ j (hj : j < k) (h : j < l.length), secSmall l[j]) ∧ Hid (Below w.heap.size w wr)) (fun _ i _ => l.length - (intOf i).toNat)
    case atStart => exact ⟨0, _, Nat.zero_le _, rfl, rfl, by omega, by omega, Lib.hid (fun j hj => by omega), Lib.hid (Below.refl _ _)⟩
    case round =>
      obtain ⟨k, r, hk, rfl, rfl, hr0, hr1, hall, hb⟩ := hrel
      by_cases hlt : k < l.length
      · have hlt' : (k : Int) < (l.length : Int) := by omega
        have hsecs := Lib.hid (hv'.out.below hb.out)
        obtain ⟨b, off, rfl, hbk, c0, c1', c2, c3⟩ := hsecs.out.four k hlt
        have hwf := Lib.hid (hsecs.out.wf hlt)
        go_wp2_with (go_at_call 63; refine (szSec_any l[k] r _ hwf.out hr0 (by omega)).mono ?_; rintro e w1 ⟨r1, rfl, hr, hb1⟩; replace hb := Lib.hid (Below.then_ hb.out hb1 (Nat.le_refl _)); clear hb1; rcases hr with rfl | ⟨hr2, hr3, hr4⟩)
        · go_wp2
          go_ret
          exact ⟨-1, rfl, .inl rfl, hb.out⟩
        · have hall2 := Lib.hid (fun j (hj : j < k + 1) (h : j < l.length) => (show secSmall l[j] from by
            by_cases e : j = k
            · subst e; exact hr4
            · exact hall.out j (by omega) h))
          have hr2' : ¬ r1 < 0 := by omega
          clear hr4 hall
          go_wp2
          go_roundw
          case rel => exact ⟨k + 1, r1, by omega, by go_num, rfl, hr2, by omega, hall2, hb⟩
          case measure => simp [intOf]; omega
      · have hlt' : ¬ (k : Int) < (l.length : Int) := by omega
        have hend := Lib.hid (show Small l from ⟨hll, fun x hx => by obtain ⟨j, hj, rfl⟩ := List.mem_iff_getElem.1 hx; exact hall.out j (by omega) hj⟩)
        go_wp2
        go_ret
        exact ⟨r, rfl, .inr ⟨hr0, hr1, hend.out⟩, hb.out⟩
end Go.Proofs.YtbadpmghlclfkaaDoor
namespace Go.Proofs.YtbadpmghlclfkaaDoor
open Go.RowKit

set_option maxHeartbeats 1000000 in
theorem toSec_any (x : Sec) (w : World) :
    Calls Tryd.prog 69 #[secA x] w (Gives (secA x) w) := by
  unfold secA
  go_enter Tryd.func69, Tryd.ntmps69
  go_wp2
  refine bodyPost_ret (v := .agg #[.string x.name, .int .i64 x.seat, .string x.word, .string x.prompt]) (by simp [results, Tryd.results69, go_sem]) rfl ⟨rfl, ?_⟩
  exact (((Below.refl _ _).alloc (Nat.le_refl _) _).alloc (by simp) _).alloc (by simp; omega) _
/-- A copy. -/
def CopyEnd (l : List Sec) (w : World) (e : Ending) (w' : World) : Prop := ∃ v, e = .returned v ∧ OwnSecs w' w.heap.size v l ∧ Below w.heap.size w w'
set_option maxHeartbeats 1000000 in
theorem toSecs_any (v : Value) (l : List Sec) (w : World) (hv : Secs w v l) (hl : l.length ≤ 1048576) :
    Calls Tryd.prog 30 #[v] w (CopyEnd l w) := by
  obtain ⟨i0, hi, hz0, hz1, hz2⟩ := info_parts Tryd.info100
  obtain ⟨A, cap, rfl⟩ := hv.form
  have hv' := Lib.hid hv
  clear hv
  have hbel := Lib.hid (Below.refl w.heap.size w)
  go_enter Tryd.func30, Tryd.ntmps30
  go_wp2_with (at_make; refine wpList_make_some rfl (.tmp 6) (.tmp 6) 61 rfl w.heap.size 100 i0 _ 4 56 Tryd.underlying61 hi hz0 hz1 hz2 _ _ _ _ l.length rfl rfl rfl rfl (by omega) (by omega) hbel.out (Nat.le_refl _) ?_; intro w1 cs0 hr1 hc0 hb1; have hr0 := Lib.hid (RowTill.none_ hc0); replace hr1 := Lib.hid hr1; replace hb1 := Lib.hid hb1; clear hc0)
  go_loopw [4] (fun i wr => ∃ (k : Nat) (cs : List Value), k ≤ l.length ∧ i = .int .i64 k ∧ Hid (Blk wr w.heap.size 100 cs) ∧ Hid (RowTill cs l k) ∧ Hid (Below w.heap.size w wr)) (fun i _ => l.length - (intOf i).toNat)
  case atStart => exact ⟨0, cs0, Nat.zero_le _, rfl, hr1, hr0, hb1⟩
  case round =>
    obtain ⟨k, cs, hk, rfl, hr, ht, hb⟩ := hrel
    have hwlt := hr.out.lt
    by_cases hlt : k < l.length
    · have hlt' : (k : Int) < (l.length : Int) := by omega
      have hsecs := Lib.hid (hv'.out.below hb.out)
      obtain ⟨b, off, rfl, hbk, c0, c1, c2, c3⟩ := hsecs.out.four k hlt
      go_wp2_with (go_at_call 69; refine (toSec_any l[k] _).mono ?_; rintro e w2 ⟨rfl, hb2⟩; unfold secA; replace hr := Lib.hid (hr.out.up hb2); replace hb := Lib.hid (Below.then_ hb.out hb2 (Nat.le_refl _)); have hcl : k * 4 + 3 < cs.length := (by have := ht.out.1; omega); have d0 := hr.out.cell (k * 4) (by omega); have d1 := hr.out.cell (k * 4 + 1) (by omega); have d2 := hr.out.cell (k * 4 + 2) (by omega); have d3 := hr.out.cell (k * 4 + 3) (by omega); have f0 := hr.out.free (k * 4); have f1 := hr.out.free (k * 4 + 1); have f2 := hr.out.free (k * 4 + 2); have f3 := hr.out.free (k * 4 + 3); clear c0 c1 c2 c3 hb2)
      have hr3 := Lib.hid (hr.out.set4 (k * 4) (k * 4 + 1) (k * 4 + 2) (k * 4 + 3) (.string l[k].name) (.int .i64 l[k].seat) (.string l[k].word) (.string l[k].prompt))
      have ht3 := Lib.hid (ht.out.put hlt)
      have hb3 := Lib.hid (below_set4 hb.out (Nat.le_refl w.heap.size) (k * 4) (k * 4 + 1) (k * 4 + 2) (k * 4 + 3) (.string l[k].name) (.int .i64 l[k].seat) (.string l[k].word) (.string l[k].prompt))
      clear hr ht hb
      go_roundw
      case rel => exact ⟨k + 1, _, by omega, by go_num, hr3, ht3, hb3⟩
      case measure => simp [intOf]; omega
    · have hlt' : ¬ (k : Int) < (l.length : Int) := by omega
      have hcs := ht.out.all (by omega)
      subst hcs
      have hO := Lib.hid (show OwnSecs wr w.heap.size (.slice (some ⟨w.heap.size, 0, none⟩) l.length l.length) l from ⟨hl, hv'.out.2.1, _, rfl, Nat.le_refl _, hr.out⟩)
      go_wp2
      go_ret
      exact ⟨_, rfl, hO.out, hb.out⟩

/-- Two secrets that are alike. -/
def sameSec (x y : Sec) : Bool := decide (x.name = y.name) && decide (x.seat = y.seat) && decide (x.word = y.word) && decide (x.prompt = y.prompt)
theorem sameSec_self (x : Sec) : sameSec x x = true := by simp [sameSec]
set_option maxHeartbeats 1000000 in
theorem eqSec_self (x : Sec) (w : World) :
    Calls Tryd.prog 77 #[secA x, secA x] w (Gives (.bool true) w) := by
  have hbb := Lib.hid (fun (o1 o2 : Obj) => ((Below.refl w.heap.size w).alloc (Nat.le_refl _) o1).alloc (by simp) o2)
  unfold secA
  go_enter Tryd.func77, Tryd.ntmps77
  go_wp2
  go_ret
  exact ⟨rfl, hbb.out _ _⟩
set_option maxHeartbeats 2000000 in
theorem eqSecs_same (v u : Value) (l : List Sec) (w : World) (hv : Secs w v l) (hu : Secs w u l) :
    Calls Tryd.prog 35 #[v, u] w (Gives (.bool true) w) := by
  obtain ⟨A, cap, rfl⟩ := hv.form
  obtain ⟨A2, cap2, rfl⟩ := hu.form
  have hl := hv.1
  unfold maxLen at hl
  have hv' := Lib.hid hv
  have hu' := Lib.hid hu
  clear hv hu
  go_enter Tryd.func35, Tryd.ntmps35
  go_wp2
  go_loopw [5] (fun i wr => ∃ k : Nat, k ≤ l.length ∧ i = .int .i64 k ∧ Hid (Below w.heap.size w wr)) (fun i _ => l.length - (intOf i).toNat)
  case atStart => exact ⟨0, Nat.zero_le _, rfl, Lib.hid (Below.refl _ _)⟩
  case round =>
    obtain ⟨k, hk, rfl, hb⟩ := hrel
    by_cases hlt : k < l.length
    · have hlt' : (k : Int) < (l.length : Int) := by omega
      have hs1 := Lib.hid (hv'.out.below hb.out)
      have hs2 := Lib.hid (hu'.out.below hb.out)
      obtain ⟨b, off, rfl, hbk, c0, c1, c2, c3⟩ := hs1.out.four k hlt
      obtain ⟨b2, off2, rfl, hbk2, d0, d1, d2, d3⟩ := hs2.out.four k hlt
      replace hb := Lib.hid (below_drew' hb.out)
      go_wp2
      go_region_held3 (fun w' => w'.cell? ⟨b, off + k * 4, none⟩ = some (.string l[k].name) ∧ w'.cell? ⟨b, off + k * 4 + 1, none⟩ = some (.int .i64 l[k].seat) ∧ w'.cell? ⟨b, off + k * 4 + 2, none⟩ = some (.string l[k].word) ∧ w'.cell? ⟨b, off + k * 4 + 3, none⟩ = some (.string l[k].prompt) ∧ w'.cell? ⟨b2, off2 + k * 4, none⟩ = some (.string l[k].name) ∧ w'.cell? ⟨b2, off2 + k * 4 + 1, none⟩ = some (.int .i64 l[k].seat) ∧ w'.cell? ⟨b2, off2 + k * 4 + 2, none⟩ = some (.string l[k].word) ∧ w'.cell? ⟨b2, off2 + k * 4 + 3, none⟩ = some (.string l[k].prompt)) (first | exact ⟨c0, c1, c2, c3, d0, d1, d2, d3⟩ | go_keep)
        ((go_at_call 77; refine (eqSec_self l[k] _).mono ?_; rintro e w1 ⟨rfl, hb1⟩; replace c0 := cell_below hb1 (Nat.le_refl _) _ _ c0; replace c1 := cell_below hb1 (Nat.le_refl _) _ _ c1; replace c2 := cell_below hb1 (Nat.le_refl _) _ _ c2; replace c3 := cell_below hb1 (Nat.le_refl _) _ _ c3; replace d0 := cell_below hb1 (Nat.le_refl _) _ _ d0; replace d1 := cell_below hb1 (Nat.le_refl _) _ _ d1; replace d2 := cell_below hb1 (Nat.le_refl _) _ _ d2; replace d3 := cell_below hb1 (Nat.le_refl _) _ _ d3; replace hb := Lib.hid (Below.then_ hb.out hb1 (Nat.le_refl _)); clear hb1))
      all_goals go_wp2
      go_roundw
      case rel => exact ⟨k + 1, by omega, by go_num, hb⟩
      case measure => simp [intOf]; omega
    · have hlt' : ¬ (k : Int) < (l.length : Int) := by omega
      go_wp2
      go_ret
      exact ⟨rfl, hb.out⟩
end Go.Proofs.YtbadpmghlclfkaaDoor
