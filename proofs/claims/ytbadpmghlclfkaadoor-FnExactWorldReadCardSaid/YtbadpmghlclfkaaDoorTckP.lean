/- The texts of worlds as plain lists: what the program and the model read; a right world comes back. -/
import Derived.Test.YtbadpmghlclfkaaDoorTckG
import Derived.Test.YtbadpmghlclfkaaDoorLines
namespace Go.Proofs.YtbadpmghlclfkaaDoor

def kindT (w : List UInt8) : Int :=
  if w = [] then 0 else if w = wSays then 1 else if w = wShow then 2 else if w = wHide then 3 else if w = wOver then 4 else if w = wTime then 5 else 0
/-- A tick as the program reads its line. -/
def readI (l : List UInt8) : Tik :=
  ⟨kindT (Lib.cut l [32]).1, readD (Lib.cut (Lib.cut l [32]).2.1 [32]).1, bytesOf (Lib.cut (Lib.cut l [32]).2.1 [32]).2.1⟩
def wordOf (k : Nat) : List UInt8 := [[], wSays, wShow, wHide, wOver, wTime].getD k []
/-- A tick as the model reads its line, from the kind k on. -/
def readFrom (l : List UInt8) : Nat → Nat → Tik
  | _, 0 => ⟨0, 0, noText⟩
  | k, n + 1 => if l.length < 6 ∨ l.take 4 ≠ wordOf k then readFrom l (k + 1) n
      else ⟨k, numS ((l.take 6).drop 5), if k = 1 ∧ 6 < l.length then bytesOf (l.drop 7) else noText⟩
def readS2 (l : List UInt8) : Tik := if l = wTime then ⟨5, 0, noText⟩ else readFrom l 1 4
theorem itoa_small (n : Int) (h0 : 0 ≤ n) (h2 : n ≤ 2) : ∃ c : UInt8, Lib.itoa n = [c] ∧ c ≠ 32 ∧ numS [c] = n ∧ readD [c] = n := by
  rcases (show n = 0 ∨ n = 1 ∨ n = 2 by omega) with rfl | rfl | rfl
  · exact ⟨48, by rw [itoa_digs 0 (by omega) (by omega)]; rfl, by decide, by decide, by have := read_itoa 0 (by omega) (by omega); rwa [itoa_digs 0 (by omega) (by omega)] at this⟩
  · exact ⟨49, by rw [itoa_digs 1 (by omega) (by omega)]; rfl, by decide, by decide, by have := read_itoa 1 (by omega) (by omega); rwa [itoa_digs 1 (by omega) (by omega)] at this⟩
  · exact ⟨50, by rw [itoa_digs 2 (by omega) (by omega)]; rfl, by decide, by decide, by have := read_itoa 2 (by omega) (by omega); rwa [itoa_digs 2 (by omega) (by omega)] at this⟩
/-- What a right tick is. -/
theorem tik_whole {x : Tik} (h : tikOk x = true) : (x.kind = 1 ∧ (0 ≤ x.seat ∧ x.seat ≤ 2) ∧ ∀ c ∈ tx x.text, 32 ≤ c.toNat ∧ c.toNat ≤ 126) ∨ ((x.kind = 2 ∨ x.kind = 3 ∨ x.kind = 4) ∧ (0 ≤ x.seat ∧ x.seat ≤ 2) ∧ x.text = noText) ∨ (x.kind = 5 ∧ x.seat = 0 ∧ x.text = noText) := by
  have he : ∀ t : ByteArray, emptyL t.data.toList = true → t = noText := by
    intro t ht
    unfold emptyL at ht
    rw [decide_eq_true_eq] at ht
    exact tx_inj (show tx t = tx noText by unfold tx; rw [ht]; rfl)
  unfold tikOk isB at h
  by_cases h1 : x.kind = 1
  · rw [if_pos h1] at h
    simp only [Bool.and_eq_true, decide_eq_true_eq] at h
    refine .inl ⟨h1, h.1, fun c hc => ?_⟩
    have := List.all_eq_true.1 h.2.2 c hc
    simpa [rangeC] using this
  · rw [if_neg h1] at h
    by_cases h2 : 2 ≤ x.kind ∧ x.kind ≤ 4
    · rw [if_pos h2] at h
      simp only [Bool.and_eq_true, decide_eq_true_eq] at h
      exact .inr (.inl ⟨by omega, h.1, he _ h.2⟩)
    · rw [if_neg h2] at h
      by_cases h5 : x.kind = 5
      · rw [if_pos h5] at h
        simp only [Bool.and_eq_true, decide_eq_true_eq] at h
        exact .inr (.inr ⟨h5, h.1, he _ h.2⟩)
      · rw [if_neg h5] at h; cases h
theorem word_ne (k : Nat) : ∀ c ∈ wordOf k, c ≠ 32 ∧ c ≠ 10 := by
  match k with
  | 0 => decide
  | 1 => decide
  | 2 => decide
  | 3 => decide
  | 4 => decide
  | 5 => decide
  | k + 6 => intro c hc; simp [wordOf] at hc
/-- No line feed stands in the line of a right tick. -/
theorem tickT_ne {x : Tik} (h : tikOk x = true) : ∀ c ∈ tickT x, c ≠ 10 := by
  have hs := tik_whole h
  obtain ⟨kd, st, tt⟩ := x
  dsimp only at hs
  have two : ∀ (k : Nat), 0 ≤ st ∧ st ≤ 2 → ∀ c ∈ Lib.join [wordOf k, Lib.itoa st] [32], c ≠ 10 := by
    intro k hst c hc
    rw [join_cons2, join_one, List.mem_append, List.mem_cons] at hc
    rcases hc with hc | rfl | hc
    · exact (word_ne k c hc).2
    · decide
    · exact ne_of_nat (by have := itoa_all st hst.1 (by omega) c hc; show c.toNat ≠ 10; omega)
  rcases hs with ⟨rfl, hst, ht⟩ | ⟨rfl | rfl | rfl, hst, rfl⟩ | ⟨rfl, rfl, rfl⟩
  · intro c hc
    have e : tickT ⟨1, st, tt⟩ = Lib.join [wordOf 1, Lib.itoa st, tx tt] [32] := rfl
    rw [e, join_cons2, join_cons2, join_one, List.mem_append, List.mem_cons, List.mem_append, List.mem_cons] at hc
    rcases hc with hc | rfl | hc | rfl | hc
    · exact (word_ne 1 c hc).2
    · decide
    · exact ne_of_nat (by have := itoa_all st hst.1 (by omega) c hc; show c.toNat ≠ 10; omega)
    · decide
    · exact ne_of_nat (by have := ht c hc; show c.toNat ≠ 10; omega)
  · exact two 2 hst
  · exact two 3 hst
  · exact two 4 hst
  · exact (fun c hc => (word_ne 5 c (show c ∈ wordOf 5 from hc)).2)
theorem split_world : ∀ (l : List Tik), (∀ x ∈ l, tikOk x = true) → splitB 10 [] (worldT l) = l.map tickT ++ [[]]
  | [], _ => by simp [worldT, splitB]
  | x :: l, h => by
    have e : worldT (x :: l) = tickT x ++ 10 :: worldT l := by simp [worldT]
    rw [e, splitB_one _ _ _ (tickT_ne (h x (by simp))), split_world l (fun y hy => h y (by simp [hy]))]
    simp
theorem tik_ext {x : Tik} {k n : Int} {t : ByteArray} (h1 : x.kind = k) (h2 : x.seat = n) (h3 : x.text = t) : x = ⟨k, n, t⟩ := by cases x; simp_all
theorem cut_nil : Lib.cut [] [32] = ([], [], false) := cut_none (by simp)
theorem readI_back {x : Tik} (h : tikOk x = true) : readI (tickT x) = x := by
  have hs := tik_whole h
  obtain ⟨kd, st, tt⟩ := x
  dsimp only at hs
  have hw : ∀ k, ∀ c ∈ wordOf k, c ≠ 32 := fun k c hc => (word_ne k c hc).1
  have two : ∀ (k : Nat), 0 ≤ st ∧ st ≤ 2 → kindT (wordOf k) = (k : Int) → readI (Lib.join [wordOf k, Lib.itoa st] [32]) = ⟨k, st, noText⟩ := by
    intro k hst hk
    obtain ⟨c, e, hc, _, hr⟩ := itoa_small st hst.1 hst.2
    rw [e, join_cons2, join_one]
    unfold readI
    rw [cut_at (hw k)]
    simp only []
    rw [cut_none (show ∀ d ∈ [c], d ≠ 32 by simpa using hc), hk, hr]
    rfl
  rcases hs with ⟨rfl, hst, ht⟩ | ⟨rfl | rfl | rfl, hst, rfl⟩ | ⟨rfl, rfl, rfl⟩
  · obtain ⟨c, e, hc, _, hr⟩ := itoa_small st hst.1 hst.2
    have e2 : tickT ⟨1, st, tt⟩ = Lib.join [wordOf 1, Lib.itoa st, tx tt] [32] := rfl
    rw [e2, e, join_cons2, join_cons2, join_one]
    unfold readI
    rw [cut_at (hw 1)]
    simp only []
    rw [cut_at (show ∀ d ∈ [c], d ≠ 32 by simpa using hc)]
    simp only []
    rw [hr, bytes_tx]
    rfl
  · exact two 2 hst (by decide)
  · exact two 3 hst (by decide)
  · exact two 4 hst (by decide)
  · have e2 : tickT ⟨5, 0, noText⟩ = wordOf 5 := rfl
    rw [e2]
    unfold readI
    rw [cut_none (hw 5)]
    simp only []
    rw [cut_nil]
    rfl
theorem readFrom_hit {l : List UInt8} {k n : Nat} (h6 : 6 ≤ l.length) (h : l.take 4 = wordOf k) : readFrom l k (n + 1) = ⟨k, numS ((l.take 6).drop 5), if k = 1 ∧ 6 < l.length then bytesOf (l.drop 7) else noText⟩ := by
  rw [readFrom, if_neg (by rintro (h1 | h1); omega; exact h1 h)]
theorem readFrom_miss {l : List UInt8} {k n : Nat} (h : l.take 4 ≠ wordOf k) : readFrom l k (n + 1) = readFrom l (k + 1) n := by
  rw [readFrom, if_pos (.inr h)]
theorem readS2_back {x : Tik} (h : tikOk x = true) : readS2 (tickT x) = x := by
  have hs := tik_whole h
  obtain ⟨kd, st, tt⟩ := x
  dsimp only at hs
  rcases hs with ⟨rfl, hst, ht⟩ | ⟨rfl | rfl | rfl, hst, rfl⟩ | ⟨rfl, rfl, rfl⟩
  · obtain ⟨c, e, hc, hn, _⟩ := itoa_small st hst.1 hst.2
    have e2 : tickT ⟨1, st, tt⟩ = [115, 97, 121, 115, 32, c, 32] ++ tx tt := by
      show Lib.join [wSays, Lib.itoa st, tx tt] [32] = _
      rw [e, join_cons2, join_cons2, join_one]; rfl
    rw [e2]
    unfold readS2
    rw [if_neg (by simp [wTime]), readFrom_hit (by simp) rfl]
    simp [hn, bytes_tx]
  · obtain ⟨c, e, hc, hn, _⟩ := itoa_small st hst.1 hst.2
    have e2 : tickT ⟨2, st, noText⟩ = [115, 104, 111, 119, 32, c] := by
      show Lib.join [wShow, Lib.itoa st] [32] = _
      rw [e, join_cons2, join_one]; rfl
    rw [e2]
    unfold readS2
    rw [if_neg (by simp [wTime]), readFrom_miss (by simp [wordOf, wSays]), readFrom_hit (by simp) rfl]
    simp [hn]
  · obtain ⟨c, e, hc, hn, _⟩ := itoa_small st hst.1 hst.2
    have e2 : tickT ⟨3, st, noText⟩ = [104, 105, 100, 101, 32, c] := by
      show Lib.join [wHide, Lib.itoa st] [32] = _
      rw [e, join_cons2, join_one]; rfl
    rw [e2]
    unfold readS2
    rw [if_neg (by simp [wTime]), readFrom_miss (by simp [wordOf, wSays]), readFrom_miss (by simp [wordOf, wShow]), readFrom_hit (by simp) rfl]
    simp [hn]
  · obtain ⟨c, e, hc, hn, _⟩ := itoa_small st hst.1 hst.2
    have e2 : tickT ⟨4, st, noText⟩ = [111, 118, 101, 114, 32, c] := by
      show Lib.join [wOver, Lib.itoa st] [32] = _
      rw [e, join_cons2, join_one]; rfl
    rw [e2]
    unfold readS2
    rw [if_neg (by simp [wTime]), readFrom_miss (by simp [wordOf, wSays]), readFrom_miss (by simp [wordOf, wShow]), readFrom_miss (by simp [wordOf, wHide]), readFrom_hit (by simp) rfl]
    simp [hn]
  · rfl
def worldI (t : List UInt8) : List Tik := (linesT t).map readI
def worldS (t : List UInt8) : List Tik := ((linesT t).take 61).map readS2
theorem lines_world {l : List Tik} (h : ∀ x ∈ l, tikOk x = true) : linesT (worldT l) = l.map tickT := by
  unfold linesT
  rw [split_world l h, List.dropLast_concat]
theorem worldI_back {l : List Tik} (h : worldB l = true) : worldI (worldT l) = l := by
  have hp := worldB_parts h
  unfold worldI
  rw [lines_world hp.2, List.map_map]
  conv => rhs; rw [← List.map_id l]
  exact List.map_congr_left fun x hx => readI_back (hp.2 x hx)
theorem worldS_back {l : List Tik} (h : worldB l = true) : worldS (worldT l) = l := by
  have hp := worldB_parts h
  unfold worldS
  rw [lines_world hp.2, List.take_of_length_le (by rw [List.length_map]; omega), List.map_map]
  conv => rhs; rw [← List.map_id l]
  exact List.map_congr_left fun x hx => readS2_back (hp.2 x hx)
theorem world_nil {l : List Tik} {t : List UInt8} (h : textW l = bytesOf t) (hl : t = [] → l = []) : worldB l = true ∧ t = worldT l := by
  cases hb : worldB l with
  | true =>
    refine ⟨rfl, ?_⟩
    rw [textW_yes hb] at h
    have := congrArg tx h
    rw [tx_bytes, tx_bytes] at this
    exact this.symm
  | false =>
    rw [textW_no hb] at h
    have h0 : t = [] := by
      have := congrArg tx h
      rw [tx_bytes] at this
      exact this.symm
    rw [hl h0] at hb
    cases hb
/-- What WorldRead hands back. -/
structure WoR where
  l : List Tik
  c : Int
def readW (t : List UInt8) : WoR := if textW (worldI t) = bytesOf t then ⟨worldI t, 0⟩ else ⟨[], 3⟩
theorem readW_same (t : List UInt8) : readW t = if textW (worldS t) = bytesOf t then ⟨worldS t, 0⟩ else ⟨[], 3⟩ := by
  unfold readW
  by_cases h : textW (worldI t) = bytesOf t
  · obtain ⟨hb, e⟩ := world_nil h (fun e => by subst e; rfl)
    have e2 : worldS t = worldI t := by
      have := worldS_back hb
      rwa [← e] at this
    rw [if_pos h, e2, if_pos h]
  · rw [if_neg h]
    by_cases h2 : textW (worldS t) = bytesOf t
    · obtain ⟨hb, e⟩ := world_nil h2 (fun e => by subst e; rfl)
      have e2 : worldI t = worldS t := by
        have := worldI_back hb
        rwa [← e] at this
      rw [e2] at h
      exact absurd h2 h
    · rw [if_neg h2]
end Go.Proofs.YtbadpmghlclfkaaDoor
