/- Draws out of lists of texts and of numbers; a source in a world with more blocks. -/
import Derived.Test.YtbadpmghlclfkaaDoorDrawS
import Derived.Test.YtbadpmghlclfkaaDoorAny
namespace Go.Proofs.YtbadpmghlclfkaaDoor
open Go.RowKit

theorem cell_under {B : Nat} {w w' : World} (k : Below B w w') (hB : w.heap.size ≤ B) (a : Addr) (x : Value) (h : w.cell? a = some x) : w'.cell? a = some x := by
  have hlt := World.block_lt_of_cell? w a h
  exact (World.cell?_of_block (k.block a.block (by omega))).trans h
/-- A slice of texts of a block's own, each of at most m bytes. -/
def Texts (w : World) (b n m : Nat) : Prop := ∀ k, k < n → ∃ s : ByteArray, s.size ≤ m ∧ w.cell? ⟨b, k, none⟩ = some (.string s)
def textsB (cs : Array Value) (n m : Nat) : Bool := (List.range n).all fun k => match cs[k]? with | some (.string s) => decide (s.size ≤ m) | _ => false
theorem texts_arr {w : World} {b n m : Nat} {cs : Array Value} {t : TypeId} (hb : b = w.heap.size) (h : textsB cs n m = true) : Texts (w.alloc (.cells cs t)) b n m := by
  subst hb
  intro k hk
  have := List.all_eq_true.1 h k (by simpa using hk)
  rw [World.cell?_alloc_new]
  split at this
  · rename_i s hs; exact ⟨s, of_decide_eq_true this, hs⟩
  · cases this
theorem Texts.drew {w : World} {b n m : Nat} (h : Texts w b n m) : Texts w.drew b n m := h
theorem Texts.alloc {w : World} {b n m : Nat} (h : Texts w b n m) (o : Obj) : Texts (w.alloc o) b n m := fun k hk => by
  obtain ⟨s, h1, h2⟩ := h k hk
  exact ⟨s, h1, cell_under ((Below.refl _ _).alloc (Nat.le_refl _) o) (Nat.le_refl _) _ _ h2⟩
theorem Texts.below {w w' : World} {b n m : Nat} (h : Texts w b n m) (k : Below w.heap.size w w') : Texts w' b n m := fun i hi => by
  obtain ⟨s, h1, h2⟩ := h i hi
  exact ⟨s, h1, cell_under k (Nat.le_refl _) _ _ h2⟩
set_option maxHeartbeats 2000000 in
theorem pick_any (g b n cap m : Nat) (A : Option Addr) (len B : Nat) (hn : 0 < n) (hn2 : n ≤ 1000) (hbg : b ≠ g) (w : World) (hs : Src w B g A len) (ht : Texts w b n m) :
    Calls Tryd.prog 47 #[.pointer (some ⟨g, 0, none⟩), .slice (some ⟨b, 0, none⟩) n cap] w fun e w' => StrEnd m e ∧ Src w' B g A len ∧ w.grownBy w' (some g) := by
  have hs' := Lib.hid hs
  have ht' := Lib.hid ht
  clear hs ht
  go_enter Tryd.func47, Tryd.ntmps47
  go_wp2_with (go_at_call 45; refine (n_any g _ A len B (by omega) _ hs'.out).mono ?_; rintro e w1 ⟨⟨v, hv, rfl⟩, hs1, hg1⟩; have hv2 : v < n := (by omega); obtain ⟨s, hsm, hc0⟩ := ht'.out v hv2; have hc : w1.cell? ⟨b, v, none⟩ = some (.string s) := hg1.cell hc0 (by simpa using hbg); replace hs1 := Lib.hid hs1; replace hg1 := Lib.hid hg1; have hv3 : (v : Int) < (n : Int) := (by omega); clear hc0)
  go_ret
  exact ⟨⟨s, hsm, rfl⟩, hs1.out, hg1.out⟩
theorem below_grown {w w' : World} {row : Option Nat} (k : Below w.heap.size w w') : w.grownBy w' row := ⟨k.os, k.tape, k.output, k.size, fun i hi _ => k.block i hi⟩
theorem Src.near {w w' : World} {B g : Nat} {A : Option Addr} {len : Nat} (h : Src w B g A len) (k : Below w.heap.size w w') : Src w' B g A len := h.below k h.lt
def TextsVal (g n m : Nat) (v : Value) (w : World) : Prop := ∃ b, v = .slice (some ⟨b, 0, none⟩) n n ∧ b ≠ g ∧ Texts w b n m
theorem Texts.grow {w w' : World} {b n m g : Nat} (h : Texts w b n m) (k : w.grownBy w' (some g)) (hne : b ≠ g) : Texts w' b n m := fun i hi => by
  obtain ⟨s, h1, h2⟩ := h i hi
  exact ⟨s, h1, k.cell h2 (by simpa using hne)⟩
theorem TextsVal.grow {g n m : Nat} {v : Value} {w w' : World} (h : TextsVal g n m v w) (k : w.grownBy w' (some g)) : TextsVal g n m v w' := by
  obtain ⟨b, rfl, hb, ht⟩ := h
  exact ⟨b, rfl, hb, ht.grow k hb⟩
def StrVal (m : Nat) (v : Value) : Prop := ∃ s : ByteArray, s.size ≤ m ∧ v = .string s
def NumVal (n : Nat) (v : Value) : Prop := ∃ k : Nat, k < n ∧ v = .int .i64 (k : Int)
def IntVal (v : Value) : Prop := ∃ x : Int, v = .int .i64 x
theorem Src.drew {w : World} {B g : Nat} {A : Option Addr} {len : Nat} (h : Src w B g A len) : Src w.drew B g A len := h
/-- A slice of n numbers; a place in one. -/
def NumsVal (g n : Nat) (v : Value) (w : World) : Prop := ∃ b, v = .slice (some ⟨b, 0, none⟩) n n ∧ b ≠ g ∧ ∀ k, k < n → ∃ x : Int, w.cell? ⟨b, k, none⟩ = some (.int .i64 x)
theorem NumsVal.grow {g n : Nat} {v : Value} {w w' : World} (h : NumsVal g n v w) (k : w.grownBy w' (some g)) : NumsVal g n v w' := by
  obtain ⟨b, rfl, hb, hx⟩ := h
  refine ⟨b, rfl, hb, fun i hi => ?_⟩
  obtain ⟨x, h⟩ := hx i hi
  exact ⟨x, k.cell h (by simpa using hb)⟩
def NumPtr (g : Nat) (v : Value) (w : World) : Prop := ∃ b k, v = .pointer (some ⟨b, k, none⟩) ∧ b ≠ g ∧ ∃ x : Int, w.cell? ⟨b, k, none⟩ = some (.int .i64 x)
theorem NumPtr.grow {g : Nat} {v : Value} {w w' : World} (h : NumPtr g v w) (k : w.grownBy w' (some g)) : NumPtr g v w' := by
  obtain ⟨b, i, rfl, hb, x, h⟩ := h
  exact ⟨b, i, rfl, hb, x, k.cell h (by simpa using hb)⟩
def numsB (cs : Array Value) (n : Nat) : Bool := (List.range n).all fun k => match cs[k]? with | some (.int .i64 _) => true | _ => false
theorem nums_arr {w : World} {b n g : Nat} {cs : Array Value} {t : TypeId} (hb : b = w.heap.size) (h : numsB cs n = true) (hg : g < w.heap.size) : NumsVal g n (.slice (some ⟨b, 0, none⟩) n n) (w.alloc (.cells cs t)) := by
  subst hb
  refine ⟨w.heap.size, rfl, (Nat.ne_of_lt hg).symm, fun k hk => ?_⟩
  have := List.all_eq_true.1 h k (by simpa using hk)
  rw [World.cell?_alloc_new]
  split at this
  · rename_i x hs; exact ⟨x, hs⟩
  · cases this
theorem grown_none {w w' : World} (h : w.grownBy w' none) : Below w.heap.size w w' := ⟨h.os, h.tape, h.output, h.size, fun k hk => h.block k hk (by simp)⟩
end Go.Proofs.YtbadpmghlclfkaaDoor
