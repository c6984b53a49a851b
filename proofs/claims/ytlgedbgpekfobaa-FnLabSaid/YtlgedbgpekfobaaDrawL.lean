/- The drawing of marked texts: what each draw may leave, not which value it draws. -/
import Derived.Test.YtlgedbgpekfobaaDrawS
import Derived.Test.YtlgedbgpekfobaaOwn2
import Derived.Test.YtlgedbgpekfobaaAny
namespace Go.Proofs.Ytlgedbgpekfobaa
open Go.RowKit

/-- A slice of texts of a block's own, each of at most m bytes. -/
def Texts (w : World) (b n m : Nat) : Prop := ∀ k, k < n → ∃ s : ByteArray, s.size ≤ m ∧ w.cell? ⟨b, k, none⟩ = some (.string s)
def textsB (cs : Array Value) (n m : Nat) : Bool := (List.range n).all fun k => match cs[k]? with | some (.string s) => decide (s.size ≤ m) | _ => false
theorem texts_arr {w : World} {b n m : Nat} {cs : Array Value} {t : TypeId} (hb : b = w.heap.size) (h : textsB cs n m = true) : Texts (w.alloc (.cells cs t)) b n m := by
  subst hb
  intro k hk
  have := List.all_eq_true.1 h k (by simpa using hk)
  rw [World.cell?_alloc_new]
  split at this
  · rename_i s hs; exact ⟨s, of_decide_eq_true this, hs⟩
  · cases this
theorem Texts.drew {w : World} {b n m : Nat} (h : Texts w b n m) : Texts w.drew b n m := h
theorem Texts.alloc {w : World} {b n m : Nat} (h : Texts w b n m) (o : Obj) : Texts (w.alloc o) b n m := fun k hk => by
  obtain ⟨s, h1, h2⟩ := h k hk
  exact ⟨s, h1, cell_below ((Below.refl _ _).alloc (Nat.le_refl _) o) (Nat.le_refl _) _ _ h2⟩
theorem Texts.below {w w' : World} {b n m : Nat} (h : Texts w b n m) (k : Below w.heap.size w w') : Texts w' b n m := fun i hi => by
  obtain ⟨s, h1, h2⟩ := h i hi
  exact ⟨s, h1, cell_below k (Nat.le_refl _) _ _ h2⟩
set_option maxHeartbeats 2000000 in
theorem pick_any (g b n cap m : Nat) (A : Option Addr) (len B : Nat) (hn : 0 < n) (hn2 : n ≤ 1000) (hbg : b ≠ g) (w : World) (hs : Src w B g A len) (ht : Texts w b n m) :
    Calls Try.prog 46 #[.pointer (some ⟨g, 0, none⟩), .slice (some ⟨b, 0, none⟩) n cap] w fun e w' => StrEnd m e ∧ Src w' B g A len ∧ w.grownBy w' (some g) := by
  have hs' := Lib.hid hs
  have ht' := Lib.hid ht
  clear hs ht
  go_enter Try.func46, Try.ntmps46
  go_wp2_with (go_at_call 44; refine (n_any g _ A len B (by omega) _ hs'.out).mono ?_; rintro e w1 ⟨⟨v, hv, rfl⟩, hs1, hg1⟩; have hv2 : v < n := (by omega); obtain ⟨s, hsm, hc0⟩ := ht'.out v hv2; have hc : w1.cell? ⟨b, v, none⟩ = some (.string s) := hg1.cell hc0 (by simpa using hbg); replace hs1 := Lib.hid hs1; replace hg1 := Lib.hid hg1; have hv3 : (v : Int) < (n : Int) := (by omega); clear hc0)
  go_ret
  exact ⟨⟨s, hsm, rfl⟩, hs1.out, hg1.out⟩
/-- A call made in a world that is another one with more blocks: that world becomes a letter. -/
theorem near_gen {P : Program} {f : Nat} {args : Array Value} {W now : World} {Q : Ending → World → Prop} (R : World → Prop) (hN : Below now.heap.size now W) (hR : R W) (h : ∀ W, Below now.heap.size now W → R W → Calls P f args W Q) : Calls P f args W Q := h W hN hR
theorem below_grown {w w' : World} {row : Option Nat} (k : Below w.heap.size w w') : w.grownBy w' row := ⟨k.os, k.tape, k.output, k.size, fun i hi _ => k.block i hi⟩
theorem Src.near {w w' : World} {B g : Nat} {A : Option Addr} {len : Nat} (h : Src w B g A len) (k : Below w.heap.size w w') : Src w' B g A len := h.below k h.lt
theorem Blk.grow {w w' : World} {g b : Nat} {t : TypeId} {cs : List Value} (h : Blk w b t cs) (k : w.grownBy w' (some g)) (hne : b ≠ g) : Blk w' b t cs := (k.block b h.lt (by simpa using hne)).trans h
theorem OwnInts.grow {w w' : World} {g lo : Nat} {v : Value} {l : List Int} (h : OwnInts w lo v l) (k : w.grownBy w' (some g)) (hlo : g < lo) : OwnInts w' lo v l := h.kept k (by
  right; intro e
  have := (h.2.lt _ e).1
  omega)
/-- A Lab that was drawn: in rows behind block g. -/
def LabDrawn (lo m : Nat) (e : Ending) (w' : World) : Prop := ∃ t A cap l, e = .returned (.agg #[.string t, .slice A l.length cap]) ∧ t.size ≤ m ∧ l.length ≤ m ∧ OwnInts w' lo (.slice A l.length cap) l
def markAt (k : Nat) : Int := [0, 0, 1, 2, 3, 8].getD k 0
theorem markAt_arr (k : Nat) (hk : k < 6) : (#[Value.int .i64 0, .int .i64 0, .int .i64 1, .int .i64 2, .int .i64 3, .int .i64 8] : Array Value)[k]? = some (.int .i64 (markAt k)) := by
  match k, hk with
  | 0, _ => rfl
  | 1, _ => rfl
  | 2, _ => rfl
  | 3, _ => rfl
  | 4, _ => rfl
  | 5, _ => rfl
  | n + 6, h => omega
def MarksAt (w : World) (b : Nat) : Prop := ∀ k, k < 6 → w.cell? ⟨b, k, none⟩ = some (.int .i64 (markAt k))
theorem marks_arr {w : World} {b : Nat} {t : TypeId} (hb : b = w.heap.size) : MarksAt (w.alloc (.cells #[Value.int .i64 0, Value.int .i64 0, Value.int .i64 1, Value.int .i64 2, Value.int .i64 3, Value.int .i64 8] t)) b := by
  subst hb
  intro k hk
  rw [World.cell?_alloc_new]; exact markAt_arr k hk
theorem MarksAt.drew {w : World} {b : Nat} (h : MarksAt w b) : MarksAt w.drew b := h
theorem MarksAt.below {w w' : World} {b : Nat} (h : MarksAt w b) (k : Below w.heap.size w w') : MarksAt w' b := fun i hi => cell_below k (Nat.le_refl _) _ _ (h i hi)
theorem MarksAt.alloc {w : World} {b : Nat} (h : MarksAt w b) (o : Obj) : MarksAt (w.alloc o) b := h.below ((Below.refl _ _).alloc (Nat.le_refl _) o)
theorem MarksAt.grow {w w' : World} {b g : Nat} (h : MarksAt w b) (k : w.grownBy w' (some g)) (hne : b ≠ g) : MarksAt w' b := fun i hi => k.cell (h i hi) (by simpa using hne)
/-- A value of a Lab of at most m marks, in a row behind block lo. -/
def LabVal (lo m : Nat) (v : Value) (w : World) : Prop := ∃ (t : ByteArray) (A : Option Addr) (cap : Nat) (l : List Int), v = .agg #[.string t, .slice A l.length cap] ∧ t.size ≤ m ∧ l.length ≤ m ∧ OwnInts w lo (.slice A l.length cap) l
theorem LabVal.grow {w w' : World} {g lo m : Nat} {v : Value} (h : LabVal lo m v w) (k : w.grownBy w' (some g)) (hlo : g < lo) : LabVal lo m v w' := by
  obtain ⟨t, A, cap, l, rfl, ht, hl, ho⟩ := h
  exact ⟨t, A, cap, l, rfl, ht, hl, ho.grow k hlo⟩
def TextsVal (g n m : Nat) (v : Value) (w : World) : Prop := ∃ b, v = .slice (some ⟨b, 0, none⟩) n n ∧ b ≠ g ∧ Texts w b n m
theorem Texts.grow {w w' : World} {b n m g : Nat} (h : Texts w b n m) (k : w.grownBy w' (some g)) (hne : b ≠ g) : Texts w' b n m := fun i hi => by
  obtain ⟨s, h1, h2⟩ := h i hi
  exact ⟨s, h1, k.cell h2 (by simpa using hne)⟩
theorem TextsVal.grow {g n m : Nat} {v : Value} {w w' : World} (h : TextsVal g n m v w) (k : w.grownBy w' (some g)) : TextsVal g n m v w' := by
  obtain ⟨b, rfl, hb, ht⟩ := h
  exact ⟨b, rfl, hb, ht.grow k hb⟩
def MarksVal (g : Nat) (v : Value) (w : World) : Prop := ∃ b, v = .slice (some ⟨b, 0, none⟩) 6 6 ∧ b ≠ g ∧ MarksAt w b
theorem MarksVal.grow {g : Nat} {v : Value} {w w' : World} (h : MarksVal g v w) (k : w.grownBy w' (some g)) : MarksVal g v w' := by
  obtain ⟨b, rfl, hb, ht⟩ := h
  exact ⟨b, rfl, hb, ht.grow k hb⟩
def MarkPtr (g : Nat) (v : Value) (w : World) : Prop := ∃ b k, v = .pointer (some ⟨b, k, none⟩) ∧ b ≠ g ∧ k < 6 ∧ MarksAt w b
theorem MarkPtr.grow {g : Nat} {v : Value} {w w' : World} (h : MarkPtr g v w) (k : w.grownBy w' (some g)) : MarkPtr g v w' := by
  obtain ⟨b, i, rfl, hb, hi, ht⟩ := h
  exact ⟨b, i, rfl, hb, hi, ht.grow k hb⟩
def StrVal (m : Nat) (v : Value) : Prop := ∃ s : ByteArray, s.size ≤ m ∧ v = .string s
def NumVal (n : Nat) (v : Value) : Prop := ∃ k : Nat, k < n ∧ v = .int .i64 (k : Int)
def IntVal (v : Value) : Prop := ∃ x : Int, v = .int .i64 x
/-- What the values of l02LabOf's region are. -/
def ofVals (g lo : Nat) (v0 : Value) (m : Nat) : Nat → Value → World → Prop
  | 0, v, _ => v = v0
  | 1, v, _ => v = .pointer (some ⟨g, 0, none⟩)
  | 2, v, w => TextsVal g 5 40 v w
  | 3, v, _ => StrVal 40 v
  | 4, v, w => MarksVal g v w
  | 5, v, _ => v = .pointer (some ⟨g, 0, none⟩)
  | 6, v, _ => NumVal 6 v
  | 7, v, w => MarkPtr g v w
  | 8, v, _ => IntVal v
  | 9, v, w => LabVal lo 40 v w
  | 10, v, w => LabVal lo m v w
  | _, _, _ => True
theorem ofVals.grow {g lo m : Nat} {v0 : Value} (hlo : g < lo) (i : Nat) (v : Value) (w w' : World) (k : w.grownBy w' (some g)) (h : ofVals g lo v0 m i v w) : ofVals g lo v0 m i v w' := by
  match i with
  | 0 => exact h
  | 1 => exact h
  | 2 => exact TextsVal.grow h k
  | 3 => exact h
  | 4 => exact MarksVal.grow h k
  | 5 => exact h
  | 6 => exact h
  | 7 => exact MarkPtr.grow h k
  | 8 => exact h
  | 9 => exact LabVal.grow h k hlo
  | 10 => exact LabVal.grow h k hlo
  | n + 11 => trivial
/-- The worlds of that region: ahead of the store, and behind it. -/
def ofAhead (H m : Nat) (t : ByteArray) (A1 : Option Addr) (cap1 : Nat) (l : List Int) (w : World) : Prop :=
  Blk w (H + 1) 25 [.string t, .slice A1 l.length cap1] ∧ t.size + 40 ≤ m ∧ l.length + 40 ≤ m ∧ OwnInts w (H + 2) (.slice A1 l.length cap1) l
def ofBehind (H m : Nat) (w : World) : Prop := ∃ t A1 cap1 l, Blk w (H + 1) 25 [.string t, .slice A1 l.length cap1] ∧ t.size ≤ m ∧ l.length ≤ m ∧ OwnInts w (H + 2) (.slice A1 l.length cap1) l
def ofBase (w0 : World) (B g : Nat) (A : Option Addr) (len : Nat) (H : Nat) (w : World) : Prop := Src w B g A len ∧ w0.grownBy w (some g) ∧ Blk w H 25 [.string ⟨#[]⟩, .slice none 0 0] ∧ H + 2 ≤ w.heap.size
structure OfWorld (w0 : World) (B g : Nat) (A : Option Addr) (len : Nat) (H m : Nat) (t : ByteArray) (A1 : Option Addr) (cap1 : Nat) (l : List Int) (b : Bool) (w : World) : Prop where
  base : ofBase w0 B g A len H w
  ahead : b = false → ofAhead H m t A1 cap1 l w
  behind : b = true → ofBehind H m w
theorem OfWorld.grow {w0 : World} {B g len H m cap1 : Nat} {A A1 : Option Addr} {t : ByteArray} {l : List Int} {w w' : World} (h : OfWorld w0 B g A len H m t A1 cap1 l false w) (k : w.grownBy w' (some g)) (hs : Src w' B g A len) (hne : g < H) : OfWorld w0 B g A len H m t A1 cap1 l false w' := by
  obtain ⟨_, h1, h2, h3⟩ := h.base
  obtain ⟨h4, h5, h6, h7⟩ := h.ahead rfl
  exact ⟨⟨hs, h1.trans k, h2.grow k (by omega), Nat.le_trans h3 k.size⟩, fun _ => ⟨h4.grow k (by omega), h5, h6, h7.grow k (by omega)⟩, fun e => by cases e⟩
theorem OfWorld.src {w0 : World} {B g len H m cap1 : Nat} {A A1 : Option Addr} {t : ByteArray} {l : List Int} {w : World} {b : Bool} (h : OfWorld w0 B g A len H m t A1 cap1 l b w) : Src w B g A len := h.base.1
theorem OfWorld.c0 {w0 : World} {B g len H m cap1 : Nat} {A A1 : Option Addr} {t : ByteArray} {l : List Int} {w : World} (h : OfWorld w0 B g A len H m t A1 cap1 l false w) : w.cell? ⟨H + 1, 0, none⟩ = some (.string t) := (h.ahead rfl).1.two.1
theorem OfWorld.c1 {w0 : World} {B g len H m cap1 : Nat} {A A1 : Option Addr} {t : ByteArray} {l : List Int} {w : World} (h : OfWorld w0 B g A len H m t A1 cap1 l false w) : w.cell? ⟨H + 1, 1, none⟩ = some (.slice A1 l.length cap1) := (h.ahead rfl).1.two.2.1
theorem OfWorld.f0 {w0 : World} {B g len H m cap1 : Nat} {A A1 : Option Addr} {t : ByteArray} {l : List Int} {w : World} (h : OfWorld w0 B g A len H m t A1 cap1 l false w) : w.frozen? ⟨H + 1, 0, none⟩ = false := (h.ahead rfl).1.two.2.2.1
theorem OfWorld.f1 {w0 : World} {B g len H m cap1 : Nat} {A A1 : Option Addr} {t : ByteArray} {l : List Int} {w : World} (h : OfWorld w0 B g A len H m t A1 cap1 l false w) : w.frozen? ⟨H + 1, 1, none⟩ = false := (h.ahead rfl).1.two.2.2.2
theorem OfWorld.stored {w0 : World} {B g len H m cap1 : Nat} {A A1 : Option Addr} {t : ByteArray} {l : List Int} {w : World} (h : OfWorld w0 B g A len H m t A1 cap1 l false w) (hgH : g < H) (hH : H = w0.heap.size) (t' : ByteArray) (A' : Option Addr) (cap' : Nat) (l' : List Int) (ht : t'.size ≤ m) (hl : l'.length ≤ m) (ho : OwnInts w (H + 2) (.slice A' l'.length cap') l') :
    OfWorld w0 B g A len H m t A1 cap1 l true ((w.setCell ⟨H + 1, 0, none⟩ (.string t')).setCell ⟨H + 1, 1, none⟩ (.slice A' l'.length cap')) := by
  subst hH
  obtain ⟨h0, h1, h2, h3⟩ := h.base
  have k := below_set2 (Below.refl (w0.heap.size + 1) w) (Nat.le_refl _) (.string t') (.slice A' l'.length cap')
  exact ⟨⟨h0.below k (by omega), grown_below h1 k (by omega), (h2.other (by omega) _).other (by omega) _, by simpa [World.setCell] using h3⟩, (fun e => by cases e),
    fun _ => ⟨t', A', cap', l', ((h.ahead rfl).1.set 0 _).set 1 _, ht, hl, ho.set2 (by omega) (Nat.le_refl _) _ _⟩⟩
theorem Src.drew {w : World} {B g : Nat} {A : Option Addr} {len : Nat} (h : Src w B g A len) : Src w.drew B g A len := h
attribute [local go_sem] vupon_value vupon_skip vupon_enter lay_cons lay_nil
set_option maxRecDepth 100000 in
set_option maxHeartbeats 1000000 in
theorem labOf_draw (g : Nat) (A : Option Addr) (len B : Nat) (w : World) (hs : Src w B g A len) :
    Calls Try.prog 61 #[.pointer (some ⟨g, 0, none⟩)] w fun e w' => LabDrawn w.heap.size 120 e w' ∧ Src w' B g A len ∧ w.grownBy w' (some g) := by
  have hgl := hs.lt
  have hs' := Lib.hid hs
  clear hs
  obtain ⟨B1, B2⟩ := boxes2' w (.string ⟨#[]⟩) (.slice none 0 0) (.string ⟨#[]⟩) (.slice none 0 0) 25 25
  replace B1 := Lib.hid B1
  replace B2 := Lib.hid B2
  go_enter Try.func61, Try.ntmps61
  go_wp2_with (go_at_call 44; refine (n_any g _ A len B (by omega) _ ((hs'.out.alloc _).alloc _)).mono ?_; rintro e w1 ⟨⟨k0, hk0, rfl⟩, hs1, hg1⟩; have hk3 : k0 ≤ 3 := (by omega); replace B1 := Lib.hid (B1.out.grow hg1 (by omega)); replace B2 := Lib.hid (B2.out.grow hg1 (by omega)); replace hg1 := Lib.hid ((World.grownBy_alloc _ _ _).trans ((World.grownBy_alloc _ _ _).trans hg1)); replace hs1 := Lib.hid hs1)
  go_loopw [4] (fun i wr => ∃ (k : Nat) (t : ByteArray) (A1 : Option Addr) (cap1 : Nat) (l : List Int), k ≤ 3 ∧ i = .int .i64 k ∧ t.size + 40 * k ≤ 120 ∧ l.length + 40 * k ≤ 120 ∧ Blk wr w.heap.size 25 [.string ⟨#[]⟩, .slice none 0 0] ∧ Blk wr (w.heap.size + 1) 25 [.string t, .slice A1 l.length cap1] ∧ OwnInts wr (w.heap.size + 2) (.slice A1 l.length cap1) l ∧ Src wr B g A len ∧ w.grownBy wr (some g)) (fun i _ => (intOf i).toNat)
  case atStart => exact ⟨k0, ⟨#[]⟩, none, 0, [], hk3, rfl, (by show 0 + 40 * k0 ≤ 120; omega), (by show 0 + 40 * k0 ≤ 120; omega), B1.out, B2.out, OwnInts.nil _ _, hs1.out, hg1.out⟩
  case round =>
    obtain ⟨k, t, A1, cap1, l, hk, rfl, ht, hl, h1, h2, ho, hs, hg⟩ := hrel
    by_cases hlt : 0 < k
    · have hlt' : (0 : Int) < (k : Int) := by omega
      replace h1 := Lib.hid h1
      replace h2 := Lib.hid h2
      replace ho := Lib.hid ho
      replace hs := Lib.hid hs
      replace hg := Lib.hid hg
      go_wp2_with fail
      refine wp_region_rows [] (ofVals g (w.heap.size + 2) (.agg #[.string t, .slice A1 l.length cap1]) (160 - 40 * k)) (byFlag 11 (OfWorld w B g A len w.heap.size (160 - 40 * k) t A1 cap1 l)) (fun k w w' => k ≠ 11 → w.grownBy w' (some g)) (by kernel_rfl) (by kernel_rfl) (by kernel_rfl) (by kernel_rfl) (fun k i v w w' _ hk hM h => ofVals.grow (by omega) i v w w' (hM fun e => by subst e; have := live_last (by kernel_rfl) hk; simp at this) h) ?_ ⟨?_, ?_, ?_, ?_, ?_, ?_, ?_, ?_, ?_, ?_, ?_, ?_, trivial⟩ ?_
      · exact ⟨⟨hs.out.drew, grown_drew hg.out, h1.out, h2.out.lt⟩, fun _ => ⟨h2.out, by omega, by omega, ho.out⟩, fun e => by cases e⟩
      all_goals clear hs hg h1 h2 ho hs1 hg1 B1 B2 hs'
      · intro y w9 L next hL ha hw hJ hd hn
        have e11 := ha 11 (by kernel_rfl)
        replace hJ := hJ.get e11
        replace hn := fun v w' a b c => hn v w' a (.put (by decide) e11 b) c
        have x0 := hJ.c0
        have x1 := hJ.c1
        replace hJ := Lib.hid hJ
        go_simp
        exact hn _ _ (fun _ => grown_self w9 _) hJ.out rfl
      · intro y w9 L next hL ha hw hJ hd hn
        have e11 := ha 11 (by kernel_rfl)
        replace hJ := hJ.get e11
        replace hn := fun v w' a b c => hn v w' a (.put (by decide) e11 b) c
        go_simp
        exact hn _ _ (fun _ => grown_self w9 _) hJ rfl
      · intro y w9 L next hL ha hw hJ hd hn
        have e11 := ha 11 (by kernel_rfl)
        replace hJ := hJ.get e11
        replace hn := fun v w' a b c => hn v w' a (.put (by decide) e11 b) c
        go_simp
        have k := World.grownBy_alloc w9 (.cells #[.string ⟨#[97, 98]⟩, .string ⟨#[112, 97, 115, 115]⟩, .string ⟨#[120]⟩, .string ⟨#[]⟩, .string ⟨#[104, 101, 108, 108, 111, 32]⟩] 9) (some g)
        exact hn _ _ (fun _ => k) (hJ.grow k (hJ.src.alloc _) hgl) ⟨_, rfl, (Nat.ne_of_lt hJ.src.lt).symm, texts_arr rfl (by rfl)⟩
      · intro y w9 L next hL ha hw hJ hd hn
        have e11 := ha 11 (by kernel_rfl)
        replace hJ := hJ.get e11
        replace hn := fun v w' a b c => hn v w' a (.put (by decide) e11 b) c
        have e1 : y 1 = _ := hd 1 (by kernel_rfl)
        have e2 : TextsVal g 5 40 (y 2) w9 := hd 2 (by kernel_rfl)
        go_simp
        obtain ⟨b, e2, hb, hx⟩ := e2
        rw [e2]
        refine (pick_any g b 5 5 40 A len B (by decide) (by decide) hb w9 hJ.src hx).mono ?_
        rintro e w' ⟨⟨s, hs, rfl⟩, hs', hg⟩
        exact ⟨_, rfl, hn _ _ (fun _ => hg) (hJ.grow hg hs' hgl) ⟨s, hs, rfl⟩⟩
      · intro y w9 L next hL ha hw hJ hd hn
        have e11 := ha 11 (by kernel_rfl)
        replace hJ := hJ.get e11
        replace hn := fun v w' a b c => hn v w' a (.put (by decide) e11 b) c
        go_simp
        have k := World.grownBy_alloc w9 (.cells #[Value.int .i64 0, .int .i64 0, .int .i64 1, .int .i64 2, .int .i64 3, .int .i64 8] 2) (some g)
        exact hn _ _ (fun _ => k) (hJ.grow k (hJ.src.alloc _) hgl) ⟨_, rfl, (Nat.ne_of_lt hJ.src.lt).symm, marks_arr rfl⟩
      · intro y w9 L next hL ha hw hJ hd hn
        have e11 := ha 11 (by kernel_rfl)
        replace hJ := hJ.get e11
        replace hn := fun v w' a b c => hn v w' a (.put (by decide) e11 b) c
        go_simp
        exact hn _ _ (fun _ => grown_self w9 _) hJ rfl
      · intro y w9 L next hL ha hw hJ hd hn
        have e11 := ha 11 (by kernel_rfl)
        replace hJ := hJ.get e11
        replace hn := fun v w' a b c => hn v w' a (.put (by decide) e11 b) c
        have e1 : y 5 = _ := hd 5 (by kernel_rfl)
        go_simp
        refine (n_any g _ A len B (by omega) w9 hJ.src).mono ?_
        rintro e w' ⟨⟨v, hv, rfl⟩, hs', hg⟩
        exact ⟨_, rfl, hn _ _ (fun _ => hg) (hJ.grow hg hs' hgl) ⟨v, by omega, rfl⟩⟩
      · intro y w9 L next hL ha hw hJ hd hn
        have e11 := ha 11 (by kernel_rfl)
        replace hJ := hJ.get e11
        replace hn := fun v w' a b c => hn v w' a (.put (by decide) e11 b) c
        have e4 : MarksVal g (y 4) w9 := hd 4 (by kernel_rfl)
        have e6 : NumVal 6 (y 6) := hd 6 (by kernel_rfl)
        go_simp
        obtain ⟨b, e4, hb, hx⟩ := e4
        obtain ⟨v, hv, e6⟩ := e6
        have hv2 : (v : Int) < 6 := by omega
        rw [e4, e6]
        go_simp
        exact hn _ _ (fun _ => grown_self w9 _) hJ ⟨b, v, rfl, hb, hv, hx⟩
      · intro y w9 L next hL ha hw hJ hd hn
        have e11 := ha 11 (by kernel_rfl)
        replace hJ := hJ.get e11
        replace hn := fun v w' a b c => hn v w' a (.put (by decide) e11 b) c
        have e7 : MarkPtr g (y 7) w9 := hd 7 (by kernel_rfl)
        go_simp
        obtain ⟨b, v, e7, hb, hv, hx⟩ := e7
        have hc := hx v hv
        rw [e7]
        go_simp
        exact hn _ _ (fun _ => grown_self w9 _) hJ ⟨_, rfl⟩
      · intro y w9 L next hL ha hw hJ hd hn
        have e11 := ha 11 (by kernel_rfl)
        replace hJ := hJ.get e11
        replace hn := fun v w' a b c => hn v w' a (.put (by decide) e11 b) c
        have e3 : StrVal 40 (y 3) := hd 3 (by kernel_rfl)
        have e8 : IntVal (y 8) := hd 8 (by kernel_rfl)
        go_simp
        obtain ⟨s, hs, e3⟩ := e3
        obtain ⟨x, e8⟩ := e8
        rw [e3, e8]
        refine (specOf_any s x w9 (by omega)).mono ?_
        rintro e w' ⟨A5, cap5, rfl, ho5, hb5⟩
        have hg : w9.grownBy w' (some g) := below_grown hb5
        have hz := hJ.base.2.2.2
        exact ⟨_, rfl, hn _ _ (fun _ => hg) (hJ.grow hg (hJ.src.near hb5) hgl) ⟨s, A5, cap5, _, rfl, hs, by rw [List.length_replicate]; exact hs, ho5.mono hz⟩⟩
      · intro y w9 L next hL ha hw hJ hd hn
        have e11 := ha 11 (by kernel_rfl)
        replace hJ := hJ.get e11
        replace hn := fun v w' a b c => hn v w' a (.put (by decide) e11 b) c
        have e0 : y 0 = _ := hd 0 (by kernel_rfl)
        have e9 : LabVal (w.heap.size + 2) 40 (y 9) w9 := hd 9 (by kernel_rfl)
        go_simp
        obtain ⟨s, A5, cap5, m, e9, hs, hm, ho5⟩ := e9
        rw [e9]
        obtain ⟨_, h5, h6, h7⟩ := hJ.ahead rfl
        have hz := hJ.base.2.2.2
        refine (specJoin_any t s _ _ l m w9 (by omega) (by omega) (by omega) h7.ints ho5.ints).mono ?_
        rintro e w' ⟨A6, cap6, rfl, ho6, hb6⟩
        have hg : w9.grownBy w' (some g) := below_grown hb6
        exact ⟨_, rfl, hn _ _ (fun _ => hg) (hJ.grow hg (hJ.src.near hb6) hgl) ⟨t ++ s, A6, cap6, _, rfl, by rw [ByteArray.size_append]; omega, by rw [List.length_append]; omega, ho6.mono hz⟩⟩
      · intro y w9 L next hL ha hw hJ hd hn
        replace hJ := hJ.get hL
        replace hn := fun v w' a b c => hn v w' a (.done b) c
        have e10 : LabVal (w.heap.size + 2) (160 - 40 * k) (y 10) w9 := hd 10 (by kernel_rfl)
        have x0 := hJ.c0
        have x1 := hJ.c1
        have xf0 := hJ.f0
        have xf1 := hJ.f1
        go_simp
        obtain ⟨t', A', cap', l', e10, ht', hl', ho'⟩ := e10
        rw [e10]
        go_simp
        exact hn _ _ (fun h => absurd rfl h) (hJ.stored hgl rfl t' A' cap' l' ht' hl' ho') trivial
      · intro y L w9 hL hJ hd
        replace hJ := hJ.got (hL 11 (by decide))
        obtain ⟨t', A', cap', l', h2, ht', hl', ho'⟩ := hJ.behind rfl
        have hb := hJ.base
        obtain ⟨hs, hg, h1, _⟩ := hb
        simp only [lay_cons, lay_nil]
        go_wp2
        exact ⟨⟨k - 1, t', A', cap', l', by omega, congrArg (Value.int .i64) (by omega), by omega, by omega, h1, h2, ho', hs, hg⟩, by simp [intOf]; omega⟩
    · have hlt' : ¬ (0 : Int) < (k : Int) := by omega
      obtain ⟨r0, r1, rf0, rf1⟩ := h1.two
      obtain ⟨x0, x1, xf0, xf1⟩ := h2.two
      have hwl := h2.lt
      have hwl1 := h1.lt
      
      replace h1 := Lib.hid h1
      replace h2 := Lib.hid h2
      replace ho := Lib.hid ho
      replace hs := Lib.hid hs
      replace hg := Lib.hid hg
      go_wp2
      refine bodyPost_ret (v := .agg #[.string t, .slice A1 l.length cap1]) (by simp [results, Try.results61, go_sem, r0, r1]) rfl ⟨⟨t, A1, cap1, l, rfl, by omega, by omega, ?_⟩, ?_, ?_⟩
      · exact ho.out.set2 (by omega) (by omega) _ _
      · exact hs.out.below (below_set2 (Below.refl w.heap.size wr) (Nat.le_refl _) _ _) hgl
      · exact grown_below hg.out (below_set2 (Below.refl w.heap.size wr) (Nat.le_refl _) _ _) (Nat.le_refl _)
end Go.Proofs.Ytlgedbgpekfobaa
