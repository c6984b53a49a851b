/- The place of a secret: by a map from the names (the program), and one by one (the model). -/
import Derived.Test.YtlkgdnkfjijneaaVaultU
import Derived.Maps.OwnSet
import Derived.Maps.OwnOps
import Derived.Maps.Views
namespace Go.Proofs.Ytlkgdnkfjijneaa
open Go.RowKit Go.Maps

def keyL (x : ByteArray) : Lit := .string x.data.toList
theorem keyL_ne {x y : ByteArray} (h : x ≠ y) : keyL x ≠ keyL y := by
  intro e
  unfold keyL at e
  injection e with e
  apply h
  cases x; cases y
  simp at e
  rw [e]
/-- What a map says of the names of the first k secrets. -/
def Says (D : DataW Unit) (l : List Sec) (k : Nat) : Prop := ∀ x : ByteArray,
  (∀ j (_ : j < k) (h2 : j < l.length), l[j].name = x → Maps.has D (keyL x) = true ∧ ∀ z, D.atKey (keyL x) z = .lit (.int .i64 (j : Int))) ∧
  ((∀ j (_ : j < k) (h2 : j < l.length), l[j].name ≠ x) → Maps.has D (keyL x) = false)
theorem Says.none_ (l : List Sec) : Says (.map []) l 0 := fun x => ⟨fun j h => by omega, fun _ => rfl⟩
theorem keyL_is (x : ByteArray) : WideAt.IsKeyLit (keyL x) := trivial
theorem Says.put {D : DataW Unit} {l : List Sec} {k : Nat} (hl : vaultB l = true) (h : Says D l k) (hD : IsMap D) (hk : k < l.length) : Says (D.put (keyL l[k].name) (.lit (.int .i64 (k : Int)))) l (k + 1) := by
  intro x
  by_cases e : l[k].name = x
  · subst e
    refine ⟨fun j hj h2 hn => ?_, fun hn => absurd rfl (hn k (by omega) hk)⟩
    have : j = k := by
      rcases Nat.lt_or_ge j k with h3 | h3
      · exact absurd hn (names_apart hl h3 hk)
      · omega
    subst this
    exact ⟨has_put_same hD (keyL_is _) _, fun z => atKey_put_same hD (keyL_is _) _ z⟩
  · have e2 : keyL x ≠ keyL l[k].name := keyL_ne (fun h => e h.symm)
    refine ⟨fun j hj h2 hn => ?_, fun hn => ?_⟩
    · have hjk : j < k := by
        rcases Nat.lt_or_ge j k with h3 | h3
        · exact h3
        · obtain rfl : j = k := by omega
          exact absurd hn e
      obtain ⟨h3, h4⟩ := (h x).1 j hjk h2 hn
      exact ⟨by rw [has_put_other e2]; exact h3, fun z => by rw [atKey_put_other e2]; exact h4 z⟩
    · rw [has_put_other e2]
      exact (h x).2 fun j hj h2 => hn j (by omega) h2
/-- What a look into the map tells. -/
theorem Says.look {D : DataW Unit} {l : List Sec} (h : Says D l l.length) (x : ByteArray) {c : Int} (hat : D.atKey (keyL x) (.lit (.int .i64 0)) = .lit (.int .i64 c)) :
    (Maps.has D (keyL x) = true ∧ placeOf l x = c) ∨ (Maps.has D (keyL x) = false ∧ placeOf l x = -1) := by
  by_cases hx : ∃ j, ∃ h : j < l.length, l[j].name = x
  · obtain ⟨j, hj, hn⟩ := hx
    have hne : ∃ k, ∃ h : k < l.length, l[k].name = x ∧ ∀ i (hi : i < k), (l[i]'(by omega)).name ≠ x := by
      induction j using Nat.strongRecOn with
      | ind j ih =>
        by_cases h2 : ∃ i, ∃ hi : i < j, (l[i]'(by omega)).name = x
        · obtain ⟨i, hi, hin⟩ := h2
          exact ih i hi (by omega) hin
        · exact ⟨j, hj, hn, fun i hi e => h2 ⟨i, hi, e⟩⟩
    obtain ⟨k, hk, hkn, hfirst⟩ := hne
    obtain ⟨h1, h2⟩ := (h x).1 k hk hk hkn
    rw [h2] at hat
    simp only [DataW.lit.injEq, Lit.int.injEq, true_and] at hat
    exact .inl ⟨h1, by rw [place_some hk hkn hfirst]; exact hat⟩
  · have hn : ∀ j (hj : j < l.length), l[j].name ≠ x := fun j hj e => hx ⟨j, hj, e⟩
    exact .inr ⟨(h x).2 fun j _ h2 => hn j h2, place_none hn⟩
theorem law : Keyed Try.prog 9 := string_keyed Try.underlying9
theorem zeroI (w : World) : (zeroValue 2).run Try.prog w = .ok (.int .i64 0) w := by kernel_rfl
/-- The places, by the names. -/
def PlacesEnd (l : List Sec) (w : World) (e : Ending) (w' : World) : Prop := ∃ (g : Nat) (D : DataW Unit), e = .returned (.map (some g)) ∧ w'.ownsMap Try.prog 9 (plainElem Try.prog 2) g 4 D ∧ Below w.heap.size w w' ∧
  (if vaultB l = true then Says D l l.length else D = .map [])
set_option maxRecDepth 20000 in
set_option maxHeartbeats 4000000 in
theorem placesOf_any (v : Value) (l : List Sec) (w : World) (hv : Secs w v l) :
    Calls Try.prog 30 #[v] w (PlacesEnd l w) := by
  obtain ⟨A, cap, rfl⟩ := hv.form
  have hl := hv.1
  unfold maxLen at hl
  have hv' := Lib.hid hv
  clear hv
  have hb0 := Lib.hid ((Below.refl w.heap.size w).alloc (Nat.le_refl _) (.map #[] 0))
  have hm0 := Lib.hid (World.ownsMap_made (H := Unit) w Try.prog 9 (plainElem Try.prog 2))
  have hmm := @run_makeMap Try.prog
  cases hok : vaultB l with
  | false =>
    go_enter Try.func30, Try.ntmps30
    go_wp2_with (go_at_call 13; refine (implVault_any _ l _ (hv'.out.alloc _)).mono ?_; rintro e w1 ⟨rfl, hb1⟩; rw [hok]; have hm1 := Lib.hid (hm0.out.kept (grown_of_below hb1 (Nat.le_refl _)) (by simp)); replace hb0 := Lib.hid (Below.then_ hb0.out hb1 (Nat.le_refl _)); clear hb1)
    go_ret
    exact ⟨_, _, rfl, hm1.out.mono (by omega), hb0.out, by rw [if_neg (by rw [hok]; simp)]⟩
  | true =>
    have h4 := vaultB_len hok
    go_enter Try.func30, Try.ntmps30
    go_wp2_with (go_at_call 13; refine (implVault_any _ l _ (hv'.out.alloc _)).mono ?_; rintro e w1 ⟨rfl, hb1⟩; rw [hok]; have hm1 := Lib.hid (hm0.out.kept (grown_of_below hb1 (Nat.le_refl _)) (by simp)); replace hb0 := Lib.hid (Below.then_ hb0.out hb1 (Nat.le_refl _)); clear hb1)
    go_loopw [13] (fun i wr => ∃ (k : Nat) (D : DataW Unit), k ≤ l.length ∧ i = .int .i64 (k : Int) ∧ Hid (Says D l k) ∧ Hid (wr.ownsMap Try.prog 9 (plainElem Try.prog 2) w.heap.size k D) ∧ Hid (Below w.heap.size w wr)) (fun i _ => l.length - (intOf i).toNat)
    case atStart => exact ⟨0, _, Nat.zero_le _, rfl, Lib.hid (Says.none_ l), hm1, hb0⟩
    case round =>
      obtain ⟨k, D, hk, rfl, hS, hm, hb⟩ := hrel
      by_cases hlt : k < l.length
      · have hlt' : (k : Int) < (l.length : Int) := by omega
        have hsecs := Lib.hid (hv'.out.below hb.out)
        obtain ⟨b, off, rfl, hbk, c0, c1, c2, c3⟩ := hsecs.out.four k hlt
        have hwf := Lib.hid (hsecs.out.wf hlt)
        have hkey : keyOf Try.prog 9 (.string l[k].name) = some (keyL l[k].name) := Go.WideMaps.keyOf_string_mk Try.underlying9 hwf.out.1
        have hS2 := Lib.hid (hS.out.put hok hm.out.isMap hlt)
        have hm2 := Lib.hid (hm.out.alloc (.cells #[.string l[k].name, .int .i64 l[k].seat, .string l[k].word, .string l[k].prompt] 39))
        have hb2 := Lib.hid (hb.out.alloc hb.out.size (.cells #[.string l[k].name, .int .i64 l[k].seat, .string l[k].word, .string l[k].prompt] 39))
        have hwi : (Lit.int .i64 (k : Int)).wf = true := by simp [Lit.wf, show IntKind.i64.min = -9223372036854775808 from by decide, show IntKind.i64.max = 9223372036854775807 from by decide]; omega
        clear hS hm hb
        go_wp2_with (at_mapUpdate; refine wpList_mapUpdate_own _ rfl _ _ _ 45 rfl 9 2 law Try.underlying45 _ w.heap.size k _ rfl hm2.out (by unfold maxLen; omega) _ _ _ rfl rfl hkey _ [] (plainElem_int Try.underlying2 hwi) ?_; intro w3 hown3 hgrow3; replace hb2 := Lib.hid (hb2.out.grown hgrow3 hb2.out.size (fun j hj => by cases hj; exact Nat.le_refl _)); replace hown3 := Lib.hid hown3; clear hgrow3)
        go_roundw
        case rel => exact ⟨k + 1, _, by omega, by go_num, hS2, hown3, hb2⟩
        case measure => simp [intOf]; omega
      · have hlt' : ¬ (k : Int) < (l.length : Int) := by omega
        obtain rfl : k = l.length := by omega
        have hm2 := Lib.hid (hm.out.mono h4)
        go_wp2
        go_ret
        exact ⟨_, D, rfl, hm2.out, hb.out, by rw [if_pos hok]; exact hS.out⟩

set_option maxHeartbeats 1000000 in
theorem implSecretAt_any (v : Value) (l : List Sec) (x : ByteArray) (w : World) (hv : Secs w v l) (hx : x.size ≤ maxLen) :
    Calls Try.prog 16 #[v, .string x] w (Gives (.int .i64 (secretAt l x)) w) := by
  have hv' := Lib.hid hv
  clear hv
  have hkey : keyOf Try.prog 9 (.string x) = some (keyL x) := Go.WideMaps.keyOf_string_mk Try.underlying9 hx
  have hempty := Lib.hid (show Maps.has (.map [] : DataW Unit) (keyL x) = false from rfl)
  cases hok : vaultB l with
  | false =>
    have e1 := Lib.hid (show secretAt l x = -1 from if_neg (by rw [hok]; simp))
    go_enter Try.func16, Try.ntmps16
    go_wp2_with (first
      | (go_at_call 30; refine (placesOf_any _ l _ hv'.out).mono ?_; rintro e w1 ⟨g, D, rfl, hm, hb, hS⟩; rw [if_neg (by rw [hok]; simp)] at hS; subst hS; replace hm := Lib.hid hm; replace hb := Lib.hid hb)
      | (at_lookup; refine wpList_lookup_own_ok_int _ rfl _ _ 45 rfl 9 2 .i64 law Try.underlying45 Try.underlying2 (zeroI _) g 4 _ rfl hm.out _ _ rfl hkey ?_; intro c hat hwc; rw [hempty.out]; clear hat hwc))
    go_ret
    exact ⟨ret_int e1.out.symm, hb.out⟩
  | true =>
    have e1 := Lib.hid (show secretAt l x = placeOf l x from if_pos hok)
    go_enter Try.func16, Try.ntmps16
    go_wp2_with (first
      | (go_at_call 30; refine (placesOf_any _ l _ hv'.out).mono ?_; rintro e w1 ⟨g, D, rfl, hm, hb, hS⟩; rw [if_pos hok] at hS; replace hS := Lib.hid hS; replace hm := Lib.hid hm; replace hb := Lib.hid hb)
      | (at_lookup; refine wpList_lookup_own_ok_int _ rfl _ _ 45 rfl 9 2 .i64 law Try.underlying45 Try.underlying2 (zeroI _) g 4 _ rfl hm.out _ _ rfl hkey ?_; intro c hat hwc; have hc := hS.out.look x hat; clear hat hwc; rcases hc with ⟨h1, h2⟩ | ⟨h1, h2⟩ <;> rw [h1] <;> replace h2 := Lib.hid h2 <;> clear h1))
    · go_ret
      exact ⟨ret_int (by rw [e1.out, h2.out]), hb.out⟩
    · go_ret
      exact ⟨ret_int (by rw [e1.out, h2.out]), hb.out⟩
set_option maxHeartbeats 1000000 in
theorem specPlace_any (v : Value) (l : List Sec) (x : ByteArray) (w : World) (hv : Secs w v l) :
    Calls Try.prog 29 #[v, .string x] w fun e w' => e = .returned (.int .i64 (placeOf l x)) ∧ w = w' := by
  obtain ⟨A, cap, rfl⟩ := hv.form
  have hl := hv.1
  unfold maxLen at hl
  have hv' := Lib.hid hv
  clear hv
  go_enter Try.func29, Try.ntmps29
  go_wp2
  go_loop [5] (fun i => ∃ k : Nat, k ≤ l.length ∧ i = .int .i64 (k : Int) ∧ Hid (∀ j (hj : j < k) (h2 : j < l.length), l[j].name ≠ x)) (fun i => l.length - (intOf i).toNat)
  case atStart => exact ⟨0, Nat.zero_le _, rfl, Lib.hid (fun j hj => by omega)⟩
  case round =>
    obtain ⟨k, hk, rfl, hn⟩ := hrel
    by_cases hlt : k < l.length
    · have hlt' : (k : Int) < (l.length : Int) := by omega
      obtain ⟨b, off, rfl, hbk, c0, c1, c2, c3⟩ := hv'.out.four k hlt
      by_cases e : l[k].name = x
      · have hp := Lib.hid (place_some hlt e fun j hj => hn.out j hj (by omega))
        rw [e] at c0
        clear e hn
        go_wp2
        go_ret
        exact ⟨ret_int hp.out.symm, rfl⟩
      · have e1 := str_ne e
        have hn2 := Lib.hid (fun j (hj : j < k + 1) (h2 : j < l.length) => (show l[j].name ≠ x from by
          by_cases e2 : j = k
          · subst e2; exact e
          · exact hn.out j (by omega) h2))
        clear e hn
        go_wp2
        go_round
        case rel => exact ⟨k + 1, by omega, by go_num, hn2⟩
        case measure => simp [intOf]; omega
    · have hlt' : ¬ (k : Int) < (l.length : Int) := by omega
      have hp := Lib.hid (place_none fun j hj => hn.out j (by omega) hj)
      clear hn
      go_wp2
      go_ret
      exact ⟨ret_int hp.out.symm, rfl⟩
set_option maxHeartbeats 1000000 in
theorem specSecretAt_any (v : Value) (l : List Sec) (x : ByteArray) (w : World) (hv : Secs w v l) (hsml : ∀ x ∈ l, secSmall x) :
    Calls Try.prog 15 #[v, .string x] w (Gives (.int .i64 (secretAt l x)) w) := by
  have hv' := Lib.hid hv
  clear hv
  cases hok : vaultB l with
  | false =>
    have e1 := Lib.hid (show secretAt l x = -1 from if_neg (by rw [hok]; simp))
    go_enter Try.func15, Try.ntmps15
    go_wp2_with (go_at_call 11; refine (specVault_any _ l _ hv'.out hsml).mono ?_; rintro e w1 ⟨rfl, hb1⟩; rw [hok]; replace hb1 := Lib.hid hb1)
    go_ret
    exact ⟨ret_int e1.out.symm, hb1.out⟩
  | true =>
    have e1 := Lib.hid (show secretAt l x = placeOf l x from if_pos hok)
    go_enter Try.func15, Try.ntmps15
    go_wp2_with (go_at_call 11; refine (specVault_any _ l _ hv'.out hsml).mono ?_; rintro e w1 ⟨rfl, hb1⟩; rw [hok]; replace hv' := Lib.hid (hv'.out.below hb1); replace hb1 := Lib.hid hb1)
    go_wp2_with (go_at_call 29; refine (specPlace_any _ l x _ hv'.out).mono ?_; rintro e w2 ⟨rfl, rfl⟩)
    go_ret
    exact ⟨ret_int e1.out.symm, hb1.out⟩
end Go.Proofs.Ytlkgdnkfjijneaa
