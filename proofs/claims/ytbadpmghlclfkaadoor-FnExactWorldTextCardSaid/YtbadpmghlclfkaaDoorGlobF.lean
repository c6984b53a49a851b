/- The program's small functions on globs: what stands at a place of a glob, the place behind it; GlobRight of the program. -/
import Derived.Test.YtbadpmghlclfkaaDoorGlobM
namespace Go.Proofs.YtbadpmghlclfkaaDoor
open Go.RowKit

theorem toList_at (s : ByteArray) (k : Nat) (hk : k < s.size) : s.data.toList[k]? = some s[k] := by
  rw [Array.getElem?_toList, Array.getElem?_eq_getElem (show k < s.data.size from hk)]; rfl
theorem is_byte {c : UInt8} (n : Nat) (h : c = UInt8.ofNat n) (hn : n < 256) : ((c.toNat : Int) == (n : Int)) = true := by
  subst h; rw [UInt8.toNat_ofNat_of_lt' hn]; simp
theorem not_byte {c : UInt8} (n : Nat) (h : c ≠ UInt8.ofNat n) (hn : n < 256) : ((c.toNat : Int) == (n : Int)) = false := by
  rw [beq_eq_false_iff_ne]
  intro e
  apply h
  apply UInt8.toNat_inj.1
  rw [UInt8.toNat_ofNat_of_lt' hn]; omega
theorem byte_same (a b : UInt8) : ((a.toNat : Int) == (b.toNat : Int)) = (a == b) := by
  by_cases h : a = b
  · subst h; simp
  · rw [(beq_eq_false_iff_ne (a := a) (b := b)).2 h, beq_eq_false_iff_ne]
    intro e; exact h (UInt8.toNat_inj.1 (by omega))

/-- The place behind what stands at i; does it mean the byte c? -/
def behindN (l : List UInt8) (i : Nat) : Nat := if l[i]? = some 92 then i + 2 else i + 1
def takesB (l : List UInt8) (i : Nat) (c : UInt8) : Bool := if l[i]? = some 63 then true else if l[i]? = some 92 then l[i + 1]? == some c else l[i]? == some c

theorem part_at {l : List UInt8} {i : Nat} (hi : i < l.length) {ps : List Pt} (h : parts (l.drop i) = some ps) :
    (l[i]? = some 42 ∧ ∃ rest, ps = .star :: rest ∧ parts (l.drop (i + 1)) = some rest) ∨
    (l[i]? ≠ some 42 ∧ ∃ x rest, ps = x :: rest ∧ x.isStar = false ∧ (∀ c, x.fits c = takesB l i c) ∧ parts (l.drop (behindN l i)) = some rest ∧ behindN l i ≤ l.length ∧ i < behindN l i ∧ (l[i]? = some 92 → i + 1 < l.length)) := by
  obtain ⟨c, hc⟩ : ∃ c, l[i]? = some c := ⟨_, List.getElem?_eq_getElem hi⟩
  have inv : ∀ {o : Option (List Pt)} {f : List Pt → List Pt}, o.map f = some ps → ∃ r, o = some r ∧ f r = ps := fun h => by
    rw [Option.map_eq_some_iff] at h; exact h
  by_cases h1 : c = 42
  · subst h1
    rw [parts_star hc] at h
    obtain ⟨r, hr, rfl⟩ := inv h
    exact .inl ⟨hc, r, rfl, hr⟩
  · refine .inr ⟨by rw [hc]; intro e; cases e; exact h1 rfl, ?_⟩
    by_cases h2 : c = 63
    · subst h2
      rw [parts_any hc] at h
      obtain ⟨r, hr, rfl⟩ := inv h
      have e : behindN l i = i + 1 := by rw [behindN, hc, if_neg (by decide)]
      exact ⟨_, r, rfl, rfl, fun c => by rw [takesB, if_pos hc]; rfl, by rw [e]; exact hr, by omega, by omega, fun h => by rw [hc] at h; cases h⟩
    · by_cases h3 : c = 92
      · subst h3
        have e : behindN l i = i + 2 := by rw [behindN, hc, if_pos rfl]
        rcases Nat.lt_or_ge (i + 1) l.length with h4 | h4
        · obtain ⟨d, hd⟩ : ∃ d, l[i + 1]? = some d := ⟨_, List.getElem?_eq_getElem h4⟩
          rw [parts_back hc hd] at h
          obtain ⟨r, hr, rfl⟩ := inv h
          refine ⟨_, r, rfl, rfl, fun c => ?_, by rw [e]; exact hr, by omega, by omega, fun _ => h4⟩
          rw [takesB, hc, if_neg (by decide), if_pos rfl, hd]
          show (c == d) = (some d == some c)
          by_cases h : c = d
          · subst h; simp
          · rw [(beq_eq_false_iff_ne (a := c) (b := d)).2 h]
            symm
            rw [beq_eq_false_iff_ne]
            intro e; cases e; exact h rfl
        · rw [parts_back_end hc h4] at h; cases h
      · have e : behindN l i = i + 1 := by rw [behindN, hc, if_neg (by intro e; cases e; exact h3 rfl)]
        rw [parts_byte hc h1 h2 h3] at h
        obtain ⟨r, hr, rfl⟩ := inv h
        refine ⟨_, r, rfl, rfl, fun d => ?_, by rw [e]; exact hr, by omega, by omega, fun h => by rw [hc] at h; cases h; exact (h3 rfl).elim⟩
        rw [takesB, hc, if_neg (by intro e; cases e; exact h2 rfl), if_neg (by intro e; cases e; exact h3 rfl)]
        show (d == c) = (some c == some d)
        by_cases h : d = c
        · subst h; simp
        · rw [(beq_eq_false_iff_ne (a := d) (b := c)).2 h]
          symm
          rw [beq_eq_false_iff_ne]
          intro e; cases e; exact h rfl

set_option maxHeartbeats 400000 in
theorem behind_any (p : ByteArray) (i : Nat) (hi : i < p.size) (hp : p.size ≤ 1048576) (w : World) :
    Calls Tryd.prog 125 #[.string p, .int .i64 (i : Int)] w fun e w' => e = .returned (.int .i64 ((behindN p.data.toList i : Nat) : Int)) ∧ w = w' := by
  by_cases h : p[i] = 92
  · have h1 : ((p[i].toNat : Int) == 92) = true := is_byte (c := p[i]) 92 h (by decide)
    have H := Lib.hid (show behindN p.data.toList i = i + 2 by rw [behindN, toList_at p i hi, h, if_pos rfl])
    clear h
    go_enter Tryd.func125, Tryd.ntmps125
    go_wp2
    go_ret
    exact ⟨ret_int (by rw [H.out]; omega), rfl⟩
  · have h1 : ((p[i].toNat : Int) == 92) = false := not_byte (c := p[i]) 92 h (by decide)
    have H := Lib.hid (show behindN p.data.toList i = i + 1 by rw [behindN, toList_at p i hi, if_neg (by intro e; injection e with e; exact h e)])
    clear h
    go_enter Tryd.func125, Tryd.ntmps125
    go_wp2
    go_ret
    exact ⟨ret_int (by rw [H.out]; omega), rfl⟩
/-- How far GlobRight has come. -/
def RightAt (l : List UInt8) (i : Nat) : Prop := (i ≤ l.length ∧ (parts l).isSome = (parts (l.drop i)).isSome) ∨ (i = l.length + 1 ∧ (parts l).isSome = false)
theorem RightAt.step {l : List UInt8} {i : Nat} (h : RightAt l i) (hi : i < l.length) : RightAt l (behindN l i) ∧ i < behindN l i := by
  replace h : (parts l).isSome = (parts (l.drop i)).isSome := by
    rcases h with ⟨_, h⟩ | ⟨h, _⟩
    · exact h
    · omega
  obtain ⟨c, hc⟩ : ∃ c, l[i]? = some c := ⟨_, List.getElem?_eq_getElem hi⟩
  by_cases h3 : c = 92
  · subst h3
    have e : behindN l i = i + 2 := by rw [behindN, hc, if_pos rfl]
    rw [e]
    refine ⟨?_, by omega⟩
    rcases Nat.lt_or_ge (i + 1) l.length with h4 | h4
    · obtain ⟨d, hd⟩ : ∃ d, l[i + 1]? = some d := ⟨_, List.getElem?_eq_getElem h4⟩
      rw [parts_back hc hd, Option.isSome_map] at h
      exact .inl ⟨by omega, h⟩
    · rw [parts_back_end hc h4] at h
      exact .inr ⟨by omega, h⟩
  · have e : behindN l i = i + 1 := by rw [behindN, hc, if_neg (by intro e; cases e; exact h3 rfl)]
    rw [e]
    refine ⟨.inl ⟨by omega, ?_⟩, by omega⟩
    by_cases h1 : c = 42
    · subst h1; rw [parts_star hc, Option.isSome_map] at h; exact h
    · by_cases h2 : c = 63
      · subst h2; rw [parts_any hc, Option.isSome_map] at h; exact h
      · rw [parts_byte hc h1 h2 h3, Option.isSome_map] at h; exact h
theorem RightAt.done {l : List UInt8} {i : Nat} (h : RightAt l i) (hi : l.length ≤ i) (h1 : 1 ≤ l.length) (h2 : l.length ≤ 40) : decide (i = l.length) = globOk l := by
  rcases h with ⟨h3, h⟩ | ⟨h3, h⟩
  · obtain rfl : i = l.length := by omega
    rw [parts_end (Nat.le_refl _)] at h
    simp [globOk, h, h1, h2]
  · subst h3
    simp [globOk, h]
theorem globOk_short (l : List UInt8) (h : ¬ (1 ≤ l.length ∧ l.length ≤ 40)) : globOk l = false := by
  unfold globOk
  by_cases h1 : 1 ≤ l.length
  · have h2 : ¬ l.length ≤ 40 := fun h2 => h ⟨h1, h2⟩
    simp [h2]
  · simp [h1]
theorem size_data (s : ByteArray) : s.data.toList.length = s.size := by simp

set_option maxHeartbeats 400000 in
theorem implRight_any (p : ByteArray) (hp : p.size ≤ maxLen) (w : World) :
    Calls Tryd.prog 115 #[.string p] w fun e w' => e = .returned (.bool (globOk p.data.toList)) ∧ w = w' := by
  unfold maxLen at hp
  have hsz := Lib.hid (size_data p)
  by_cases h1 : 1 ≤ p.size
  · by_cases h2 : p.size ≤ 40
    · go_enter Tryd.func115, Tryd.ntmps115
      go_wp2
      go_loop [3] (fun i => ∃ k : Nat, k ≤ 41 ∧ i = .int .i64 (k : Int) ∧ Hid (RightAt p.data.toList k)) (fun i => 41 - (intOf i).toNat)
      case atStart => exact ⟨0, by omega, rfl, Lib.hid (.inl ⟨Nat.zero_le _, by simp⟩)⟩
      case round =>
        obtain ⟨k, hk, rfl, hJ⟩ := hrel
        by_cases hlt : k < p.size
        · have hS := Lib.hid (hJ.out.step (by rw [hsz.out]; exact hlt))
          have hle : behindN p.data.toList k ≤ 41 := by
            have := hS.out.1
            rcases this with h | h
            · have := h.1; rw [hsz.out] at this; omega
            · have := h.1; rw [hsz.out] at this; omega
          have hgt := hS.out.2
          go_wp2_with (go_at_call 125; refine (behind_any p k hlt (by omega) _).mono ?_; rintro e w' ⟨rfl, rfl⟩)
          go_round
          case rel => exact ⟨behindN p.data.toList k, hle, rfl, Lib.hid hS.out.1⟩
          case measure => simp [intOf]; omega
        · have hD := Lib.hid (hJ.out.done (by rw [hsz.out]; omega) (by rw [hsz.out]; exact h1) (by rw [hsz.out]; exact h2))
          go_wp2
          go_ret
          exact ⟨ret_bool (by rw [← hD.out, hsz.out]; rw [Bool.eq_iff_iff]; simp; omega), rfl⟩
    · go_enter Tryd.func115, Tryd.ntmps115
      have h2' : (40 : Int) < (p.size : Int) := by omega
      go_wp2
      go_ret
      exact ⟨ret_bool (globOk_short _ (by rw [hsz.out]; omega)).symm, rfl⟩
  · go_enter Tryd.func115, Tryd.ntmps115
    have h1' : (p.size : Int) < 1 := by omega
    go_wp2
    go_ret
    exact ⟨ret_bool (globOk_short _ (by rw [hsz.out]; omega)).symm, rfl⟩
end Go.Proofs.YtbadpmghlclfkaaDoor
