/- The program's marked texts: cut, redacted, all marks. The program's marked texts: redacted, all marks, compared. The program's marked texts: all marks, compared. The program's marked texts: the same but for some marks. The model's marked texts: made, redacted, all marks, compared. The model's marked texts: compared. The model's marked texts: joined and cut. The model's marked texts: LabJoin and LabCut. Rows of the call's own, and where they lie: what a mark in one of them leaves alone. -/
import Derived.Test.YtbadpmghlclfkaaDoorLabE
import Derived.Test.YtbadpmghlclfkaaDoorBuf
import Derived.Lib.SlBytesConst
namespace Go.Proofs.YtbadpmghlclfkaaDoor
open Go.RowKit

def cutR (t : ByteArray) (l : List Int) (a b : Int) : LabR := if labB t l = true then (if 0 ≤ a ∧ a ≤ b ∧ b ≤ (t.size : Int) then ⟨0, bytesOf ((t.data.toList.drop a.toNat).take (b.toNat - a.toNat)), (l.drop a.toNat).take (b.toNat - a.toNat)⟩ else noLab 8) else noLab 1
theorem cutR_no {t : ByteArray} {l : List Int} {a b : Int} (h : labB t l = false) : cutR t l a b = noLab 1 := by rw [cutR, if_neg (by rw [h]; simp)]
theorem cutR_range {t : ByteArray} {l : List Int} {a b : Int} (h : labB t l = true) (h1 : ¬ (0 ≤ a ∧ a ≤ b ∧ b ≤ (t.size : Int))) : cutR t l a b = noLab 8 := by rw [cutR, if_pos h, if_neg h1]
theorem cutR_ok {t : ByteArray} {l : List Int} {a b : Nat} (h : labB t l = true) (h1 : a ≤ b) (h2 : b ≤ t.size) : cutR t l (a : Int) (b : Int) = ⟨0, bytesOf ((t.data.toList.drop a).take (b - a)), (l.drop a).take (b - a)⟩ := by rw [cutR, if_pos h, if_pos (by omega)]; rfl
theorem cells_part (T : List UInt8) (l : List Int) (a n : Nat) : ((cellsL T l).drop a).take n = cellsL ((T.drop a).take n) ((l.drop a).take n) := by
  unfold cellsL; rw [List.drop_zipWith, List.take_zipWith]
end Go.Proofs.YtbadpmghlclfkaaDoor
namespace Go.Proofs.YtbadpmghlclfkaaDoor
open Go.RowKit

/-- A text of which the first k bytes are redacted. -/
def redK (T : List UInt8) (l : List Int) (k : Nat) : List UInt8 := List.zipWith (fun c m => if m = 0 then c else 42) (T.take k) (l.take k) ++ T.drop k
def redL (T : List UInt8) (l : List Int) : List UInt8 := List.zipWith (fun c m => if m = 0 then c else 42) T l
theorem redK_zero (T : List UInt8) (l : List Int) : redK T l 0 = T := by simp [redK]
theorem redK_len (T : List UInt8) (l : List Int) (k : Nat) (h : T.length = l.length) : (redK T l k).length = T.length := by simp [redK, h]; omega
theorem redK_all (T : List UInt8) (l : List Int) (k : Nat) (h : T.length = l.length) (hk : l.length ≤ k) : redK T l k = redL T l := by
  unfold redK redL; rw [List.take_of_length_le (by omega), List.take_of_length_le hk, List.drop_eq_nil_of_le (by omega), List.append_nil]
theorem redK_succ (T : List UInt8) (l : List Int) (k : Nat) (h : T.length = l.length) (hk : k < l.length) (hk2 : k < T.length) : redK T l (k + 1) = (redK T l k).set k (if l[k] = 0 then T[k] else 42) := by
  unfold redK
  have e : (List.zipWith (fun c m => if m = 0 then c else 42) (T.take k) (l.take k) : List UInt8).length = k := by simp; omega
  have e3 : k - (List.zipWith (fun c m => if m = 0 then c else 42) (T.take k) (l.take k) : List UInt8).length = 0 := by omega
  rw [List.take_succ_eq_append_getElem hk, List.take_succ_eq_append_getElem hk2, List.zipWith_append (by simp; omega), List.set_append, if_neg (by omega), e3, List.drop_eq_getElem_cons hk2, List.set_cons_zero, List.append_assoc]
  rfl
theorem redK_at (T : List UInt8) (l : List Int) (k : Nat) (h : T.length = l.length) (hk2 : k < T.length) (hk3 : k < (redK T l k).length) : (redK T l k)[k] = T[k] := by
  unfold redK at hk3 ⊢
  have e : (List.zipWith (fun c m => if m = 0 then c else 42) (T.take k) (l.take k) : List UInt8).length = k := by simp; omega
  rw [List.getElem_append_right (by omega)]
  simp [e]
theorem redK_skip (T : List UInt8) (l : List Int) (k : Nat) (h : T.length = l.length) (hk : k < l.length) (h0 : l[k] = 0) : redK T l (k + 1) = redK T l k := by
  rw [redK_succ T l k h hk (by omega), if_pos h0]
  apply List.ext_getElem (by simp)
  intro i h1 h2
  rw [List.getElem_set]
  split
  · rename_i e; subst e; rw [redK_at T l k h (by omega)]
  · rfl
theorem redK_star (T : List UInt8) (l : List Int) (k : Nat) (h : T.length = l.length) (hk : k < l.length) (h0 : ¬ l[k] = 0) : redK T l (k + 1) = (redK T l k).set k 42 := by rw [redK_succ T l k h hk (by omega), if_neg h0]
theorem Buf.set' {w : World} {g v : Nat} {l : List UInt8} (h : Buf w g l) (hv : v < l.length) : Buf (w.setCell ⟨g, v, none⟩ (.int .u8 42)) g (l.set v 42) := h.set hv 42
/-- Redacted: of what is not right, nothing. -/
def redT (t : ByteArray) (l : List Int) : ByteArray := if labB t l = true then bytesOf (redL t.data.toList l) else ⟨#[]⟩
theorem redT_no {t : ByteArray} {l : List Int} (h : labB t l = false) : redT t l = ⟨#[]⟩ := by rw [redT, if_neg (by rw [h]; simp)]
theorem redT_ok {t : ByteArray} {l : List Int} (h : labB t l = true) : redT t l = bytesOf (redL t.data.toList l) := by rw [redT, if_pos h]
def TextIs (s : ByteArray) (w : World) (e : Ending) (w' : World) : Prop := e = .returned (.string s) ∧ Below w.heap.size w w'
theorem TextIs.of {s r : ByteArray} {w w' : World} (h : r = s) (k : Below w.heap.size w w') : TextIs s w (.returned (.string r)) w' := by subst h; exact ⟨rfl, k⟩
end Go.Proofs.YtbadpmghlclfkaaDoor
namespace Go.Proofs.YtbadpmghlclfkaaDoor
open Go.RowKit

/-- All bits of the marks together. -/
def orI (a b : Int) : Int := bits .or .i64 a b
def markL (l : List Int) : Int := l.foldl orI 0
theorem markL_succ (l : List Int) (k : Nat) (hk : k < l.length) : markL (l.take (k + 1)) = orI (markL (l.take k)) l[k] := by
  unfold markL; rw [List.take_succ_eq_append_getElem hk, List.foldl_append]; rfl
def markT (t : ByteArray) (l : List Int) : Int := if labB t l = true then markL l else 0
theorem markT_no {t : ByteArray} {l : List Int} (h : labB t l = false) : markT t l = 0 := by rw [markT, if_neg (by rw [h]; simp)]
theorem markT_ok {t : ByteArray} {l : List Int} (h : labB t l = true) : markT t l = markL l := by rw [markT, if_pos h]
def IntIs (n : Int) (w : World) (e : Ending) (w' : World) : Prop := e = .returned (.int .i64 n) ∧ Below w.heap.size w w'
theorem IntIs.of {n m : Int} {w w' : World} (h : m = n) (k : Below w.heap.size w w') : IntIs n w (.returned (.int .i64 m)) w' := by subst h; exact ⟨rfl, k⟩
end Go.Proofs.YtbadpmghlclfkaaDoor
namespace Go.Proofs.YtbadpmghlclfkaaDoor
open Go.RowKit

def andI (a b : Int) : Int := bits .and .i64 a b
/-- The first n bytes are the same, but for those whose mark has one of the bits k. -/
def butN (t s : ByteArray) (l : List Int) (k : Int) (n : Nat) : Prop := ∀ i (h1 : i < l.length) (h2 : i < t.size) (h3 : i < s.size), i < n → andI l[i] k = 0 → t[i] = s[i]
noncomputable def sameB (t s : ByteArray) (l m : List Int) (k : Int) : Bool := @decide (labB t l = true ∧ labB s m = true ∧ l = m ∧ butN t s l k l.length) (Classical.propDecidable _)
theorem sameB_yes {t s : ByteArray} {l m : List Int} {k : Int} (h1 : labB t l = true) (h2 : labB s m = true) (h3 : l = m) (h4 : butN t s l k l.length) : sameB t s l m k = true := by exact @decide_eq_true _ (Classical.propDecidable _) ⟨h1, h2, h3, h4⟩
theorem sameB_no {t s : ByteArray} {l m : List Int} {k : Int} (h : ¬ (labB t l = true ∧ labB s m = true ∧ l = m ∧ butN t s l k l.length)) : sameB t s l m k = false := by exact @decide_eq_false _ (Classical.propDecidable _) h
theorem but_zero (t s : ByteArray) (l : List Int) (k : Int) : butN t s l k 0 := fun _ _ _ _ h _ => absurd h (Nat.not_lt_zero _)
theorem but_step {t s : ByteArray} {l : List Int} {k : Int} {n : Nat} (h : butN t s l k n) (h1 : n < l.length) (h2 : n < t.size) (h3 : n < s.size) (e : andI l[n] k = 0 → t[n] = s[n]) : butN t s l k (n + 1) := by
  intro i g1 g2 g3 hi h0
  by_cases hin : i = n
  · subst hin; exact e h0
  · exact h i g1 g2 g3 (by omega) h0
theorem but_more {t s : ByteArray} {l : List Int} {k : Int} {n : Nat} (h : butN t s l k n) (hn : l.length ≤ n) : butN t s l k l.length := fun i g1 g2 g3 _ h0 => h i g1 g2 g3 (by omega) h0
theorem int_ne (a b : UInt8) (h : ¬ a = b) : ((a.toNat : Int) == (b.toNat : Int)) = false ∧ ((a.toNat : Int) != (b.toNat : Int)) = true := by
  have : ¬ (a.toNat : Int) = (b.toNat : Int) := fun e => h (UInt8.toNat_inj.1 (by omega))
  simp [this]
theorem boxes2' (w : World) (x y x' y' : Value) (t1 t2 : TypeId) :
    Blk ((w.alloc (.cells #[x, y] t1)).alloc (.cells #[x', y'] t2)) w.heap.size t1 [x, y] ∧ Blk ((w.alloc (.cells #[x, y] t1)).alloc (.cells #[x', y'] t2)) (w.heap.size + 1) t2 [x', y'] := boxes2 w [x, y] [x', y'] t1 t2
end Go.Proofs.YtbadpmghlclfkaaDoor
namespace Go.Proofs.YtbadpmghlclfkaaDoor
open Go.RowKit

theorem one_ints (w : World) (m : Int) : Ints (w.alloc (.cells #[.int .i64 m] 2)) (.slice (some ⟨w.heap.size, 0, none⟩) 1 1) [m] :=
  ⟨by simp, _, _, rfl, by simp, fun _ => ⟨_, _, rfl, fun i hi => by
    have h0 : i = 0 := by simpa using hi
    subst h0
    exact World.cell?_alloc_new w _ _ _⟩⟩
theorem repl_snoc (k : Nat) (m : Int) : List.replicate k m ++ [m] = List.replicate (k + 1) m := by rw [List.replicate_succ', ]
theorem LabEnd.of {base : Nat} {t : ByteArray} {l : List Int} {w w' : World} {A : Option Addr} {n cap : Nat} (hn : n = l.length) (ho : OwnInts w' base (.slice A n cap) l) (k : Below base w w') : LabEnd base t l w (.returned (.agg #[.string t, .slice A n cap])) w' := by
  subst hn; exact ⟨A, cap, rfl, ho, k⟩
theorem OwnInts.set2 {w : World} {b c g : Nat} {v : Value} {l : List Int} (h : OwnInts w c v l) (hg : g < c) (hb : b ≤ c) (x y : Value) : OwnInts ((w.setCell ⟨g, 0, none⟩ x).setCell ⟨g, 1, none⟩ y) b v l :=
  ((h.setCell _ _ _ hg).setCell _ _ _ hg).mono hb
theorem below_set2 {w w' : World} {b g : Nat} (h : Below b w w') (hg : b ≤ g) (x y : Value) : Below b w ((w'.setCell ⟨g, 0, none⟩ x).setCell ⟨g, 1, none⟩ y) :=
  (h.setCell (p := ⟨g, 0, none⟩) hg x).setCell (p := ⟨g, 1, none⟩) hg y
end Go.Proofs.YtbadpmghlclfkaaDoor
namespace Go.Proofs.YtbadpmghlclfkaaDoor
open Go.RowKit

theorem alike_len {t s : ByteArray} {l m : List Int} (h : ¬ l.length = m.length) : alikeB t s l m = false := by simp [alikeB, intsB_len h]
theorem alike_at {t s : ByteArray} {l m : List Int} (h : intsB l m = false) : alikeB t s l m = false := by simp [alikeB, h]
theorem alike_all {t : ByteArray} {l m : List Int} (h : intsB l m = true) : alikeB t t l m = true := by simp [alikeB, h]
/-- The first n places are alike: the marks, and the bytes whose mark has none of the bits k. -/
def eqN (t s : ByteArray) (l m : List Int) (k : Int) (n : Nat) : Prop := ∀ i (h1 : i < l.length) (h2 : i < m.length) (h3 : i < t.size) (h4 : i < s.size), i < n → l[i] = m[i] ∧ (andI l[i] k = 0 → t[i] = s[i])
theorem eqN_zero (t s : ByteArray) (l m : List Int) (k : Int) : eqN t s l m k 0 := fun _ _ _ _ _ h => absurd h (Nat.not_lt_zero _)
theorem eqN_step {t s : ByteArray} {l m : List Int} {k : Int} {n : Nat} (h : eqN t s l m k n) (h1 : n < l.length) (h2 : n < m.length) (h3 : n < t.size) (h4 : n < s.size) (e1 : l[n] = m[n]) (e : andI l[n] k = 0 → t[n] = s[n]) : eqN t s l m k (n + 1) := by
  intro i g1 g2 g3 g4 hi
  by_cases hin : i = n
  · subst hin; exact ⟨e1, e⟩
  · exact h i g1 g2 g3 g4 (by omega)
theorem eqN_all {t s : ByteArray} {l m : List Int} {k : Int} {n : Nat} (h1 : labB t l = true) (h2 : labB s m = true) (hts : t.size = s.size) (h : eqN t s l m k n) (hn : t.size ≤ n) : sameB t s l m k = true := by
  have a := (labB_parts h1).2.1
  have b := (labB_parts h2).2.1
  have e : l = m := List.ext_getElem (by omega) fun i g1 g2 => (h i g1 g2 (by omega) (by omega) (by omega)).1
  exact sameB_yes h1 h2 e fun i g1 g2 g3 _ h0 => (h i g1 (by omega) g2 g3 (by omega)).2 h0
theorem same_size {t s : ByteArray} {l m : List Int} {k : Int} (h : ¬ t.size = s.size) : sameB t s l m k = false := sameB_no fun ⟨h1, h2, h3, _⟩ => by
  have a := (labB_parts h1).2.1
  have b := (labB_parts h2).2.1
  subst h3; omega
end Go.Proofs.YtbadpmghlclfkaaDoor
namespace Go.Proofs.YtbadpmghlclfkaaDoor
open Go.RowKit

theorem empty_own (w : World) (e : TypeId) (g base : Nat) (hg : g = w.heap.size) (hb : base ≤ g) : (w.alloc (.cells #[] e)).ownsRow base e 1 (.slice (some ⟨g, 0, none⟩) 0 0) ([] : List Value).length [] := by
  subst hg
  exact Blk.owns (cs := []) (heap_alloc_new w _) rfl (by simp) hb
theorem Ints.reads {w : World} {v : Value} {l : List Int} (h : Ints w v l) : Reads w v (l.map intV) := by
  obtain ⟨h1, A, cap, rfl, _, h2⟩ := h
  refine ⟨A, cap, by simp, fun h0 => ?_⟩
  obtain ⟨b, off, rfl, hc⟩ := h2 (by simpa using h0)
  exact ⟨b, off, rfl, fun i hi => by rw [hc i (by simpa using hi)]; simp [intV]⟩
theorem ints_one {l : List Int} : ∀ y ∈ l.map intV, y.oneCell' = true := by
  intro y hy
  rw [List.mem_map] at hy
  obtain ⟨n, _, rfl⟩ := hy
  rfl
theorem own_ints {w : World} {base : Nat} {v : Value} {l : List Int} {xs : List Value} (h : w.ownsRow base 2 1 v xs.length xs) (hx : xs = l.map intV) (hl : l.length ≤ 1048576) : OwnInts w base v l := by
  subst hx
  rw [List.length_map] at h
  exact ⟨hl, h⟩
theorem bytes_append (t s : ByteArray) : bytesOf (t.data.toList ++ s.data.toList) = t ++ s := by
  cases t with | mk a => cases s with | mk b =>
  apply ByteArray.ext
  simp [bytesOf]
end Go.Proofs.YtbadpmghlclfkaaDoor
namespace Go.Proofs.YtbadpmghlclfkaaDoor
open Go.RowKit

theorem bytes_cut (t : ByteArray) (p q : Nat) : bytesOf ((t.data.toList.drop p).take (q - p)) = t.extract p q := by
  apply ByteArray.ext
  show ((t.data.toList.drop p).take (q - p)).toArray = _
  rw [ByteArray.data_extract]
  apply Array.toList_inj.1
  simp
theorem Ints.sliced {w : World} {A : Option Addr} {n cap p q : Nat} {l : List Int} (h : Ints w (.slice A n cap) l) (h1 : p ≤ q) (h2 : q ≤ l.length) : Ints w (Go.sliced A p q cap 1) ((l.drop p).take (q - p)) := by
  have hl : ((l.drop p).take (q - p)).length = q - p := by simp; omega
  have hcap := h.cap_le
  unfold Go.sliced
  refine ⟨by have := h.1; omega, _, _, by rw [hl], by rw [hl]; omega, fun h0 => ?_⟩
  rw [hl] at h0
  obtain ⟨b, off, rfl, hb, hc⟩ := h.at_ p (by omega)
  refine ⟨b, off + p, ?_, fun i hi => ?_⟩
  · rw [if_neg (by omega)]
    have e1 : (⟨b, off, none⟩ : Addr).add p = ⟨b, off + p, none⟩ := by unfold Addr.add; split <;> simp_all
    rw [Nat.mul_one]; exact congrArg some e1
  · rw [hl] at hi
    obtain ⟨b', off', e, _, hc'⟩ := h.at_ (p + i) (by omega)
    cases e
    rw [Nat.add_assoc, hc']
    simp
end Go.Proofs.YtbadpmghlclfkaaDoor
namespace Go.Proofs.YtbadpmghlclfkaaDoor
open Go.RowKit

/-- A row of the call's own, in a block from lo on and below hi. -/
def Own2 (w : World) (lo hi : Nat) (v : Value) (l : List Int) : Prop := OwnInts w lo v l ∧ ∀ k, v.ownBlock = some k → k < hi
theorem Own2.new {w : World} {lo base : Nat} {v : Value} {l : List Int} (h : OwnInts w base v l) (hb : lo ≤ base) : Own2 w lo w.heap.size v l := ⟨h.mono hb, fun k e => (h.2.lt k e).2⟩
theorem Own2.below {w w' : World} {lo hi : Nat} {v : Value} {l : List Int} (h : Own2 w lo hi v l) (k : Below w.heap.size w w') : Own2 w' lo hi v l := ⟨h.1.below k, h.2⟩
theorem Own2.alloc {w : World} {lo hi : Nat} {v : Value} {l : List Int} (h : Own2 w lo hi v l) (o : Obj) : Own2 (w.alloc o) lo hi v l := ⟨h.1.alloc o, h.2⟩
theorem Own2.drew {w : World} {lo hi : Nat} {v : Value} {l : List Int} (h : Own2 w lo hi v l) : Own2 w.drew lo hi v l := h
theorem Own2.ints {w : World} {lo hi : Nat} {v : Value} {l : List Int} (h : Own2 w lo hi v l) : Ints w v l := h.1.ints
theorem Own2.apart {w w' : World} {lo hi lo2 hi2 : Nat} {v u : Value} {l m : List Int} (h : Own2 w lo hi v l) (hg : w.grownBy w' u.ownBlock) (k : Own2 w lo2 hi2 u m) (hd : hi ≤ lo2 ∨ hi2 ≤ lo) : Own2 w' lo hi v l := by
  refine ⟨h.1.kept hg ?_, h.2⟩
  cases hv : v.ownBlock with
  | none => exact .inl rfl
  | some a =>
    right
    intro e
    have h1 := h.2 a hv
    have h2 := (h.1.2.lt a hv).1
    have h3 := k.2 a e.symm
    have h4 := (k.1.2.lt a e.symm).1
    omega
theorem Own2.blk {w w' : World} {lo hi g : Nat} {u : Value} {m : List Int} {t : TypeId} {cs : List Value} (k : Own2 w lo hi u m) (hg : w.grownBy w' u.ownBlock) (h : Blk w g t cs) (hd : g < lo ∨ hi ≤ g) : Blk w' g t cs := by
  refine (hg.block g h.lt ?_).trans h
  intro e
  have h3 := k.2 g e.symm
  have h4 := (k.1.2.lt g e.symm).1
  omega
theorem Own2.stays {w0 w w' : World} {b lo hi : Nat} {u : Value} {m : List Int} (k : Own2 w lo hi u m) (hg : w.grownBy w' u.ownBlock) (h : Below b w0 w) (hb : b ≤ lo ∧ b ≤ w.heap.size) : Below b w0 w' :=
  h.grown hg hb.2 fun a e => Nat.le_trans hb.1 (k.1.2.lt a e).1
theorem Own2.marked {w w' : World} {lo hi : Nat} {u : Value} {m m' : List Int} (k : Own2 w lo hi u m) (h : OwnInts w' lo u m') : Own2 w' lo hi u m' := ⟨h, k.2⟩
theorem grown_set3 (w : World) (g : Nat) (x y z : Value) : w.grownBy (((w.setCell ⟨g, 0, none⟩ x).setCell ⟨g, 1, none⟩ y).setCell ⟨g, 2, none⟩ z) (some g) :=
  ⟨rfl, rfl, rfl, by simp [World.setCell], fun k _ hne => by
    have hk : k ≠ g := fun e => hne (by rw [e])
    rw [Below.heap_setCell _ ⟨g, 2, none⟩ z k hk, Below.heap_setCell _ ⟨g, 1, none⟩ y k hk, Below.heap_setCell _ ⟨g, 0, none⟩ x k hk]⟩
theorem Own2.set3o {w : World} {lo hi g : Nat} {v : Value} {l : List Int} (h : Own2 w lo hi v l) (hg : hi ≤ g) (x y z : Value) : Own2 (((w.setCell ⟨g, 0, none⟩ x).setCell ⟨g, 1, none⟩ y).setCell ⟨g, 2, none⟩ z) lo hi v l := by
  refine ⟨h.1.kept (grown_set3 w g x y z) ?_, h.2⟩
  cases hv : v.ownBlock with
  | none => exact .inl rfl
  | some a =>
    right
    intro e
    have := h.2 a hv
    cases e; omega
theorem Blk.set3o {w : World} {g g' : Nat} {t : TypeId} {cs : List Value} (h : Blk w g t cs) (hne : g ≠ g') (x y z : Value) : Blk (((w.setCell ⟨g', 0, none⟩ x).setCell ⟨g', 1, none⟩ y).setCell ⟨g', 2, none⟩ z) g t cs := ((h.other hne x).other hne y).other hne z
theorem Blk.set3 {w : World} {g : Nat} {t : TypeId} {a b c : Value} (h : Blk w g t [a, b, c]) (x y z : Value) : Blk (((w.setCell ⟨g, 0, none⟩ x).setCell ⟨g, 1, none⟩ y).setCell ⟨g, 2, none⟩ z) g t [x, y, z] := ((h.set 0 x).set 1 y).set 2 z
theorem size_set3 (w : World) (g : Nat) (x y z : Value) : (((w.setCell ⟨g, 0, none⟩ x).setCell ⟨g, 1, none⟩ y).setCell ⟨g, 2, none⟩ z).heap.size = w.heap.size := by simp [World.setCell]
theorem zblk {b : Nat} {w0 w : World} (_h : Below b w0 w) (cs : List Value) (t : TypeId) : Blk (w.alloc (.cells cs.toArray t)) w.heap.size t cs := heap_alloc_new w _
theorem le_alloc {w : World} {n : Nat} (h : n ≤ w.heap.size) (o : Obj) : n ≤ (w.alloc o).heap.size := by rw [World.size_alloc]; omega
theorem far2 {a b n : Nat} (h1 : a < n) (h2 : n ≤ b) : ¬ a = b ∧ ¬ b = a := ⟨by omega, by omega⟩
theorem markLab_one (t : ByteArray) (v : Value) (l : List Int) (base : Nat) (w : World) (hv : OwnInts w base v l) :
    Calls Tryd.prog 78 #[.agg #[.string t, v], .int .i64 1] w (MarkEnd base 1 l.length v w) := markLab_any t v l 1 base w (by decide) hv
end Go.Proofs.YtbadpmghlclfkaaDoor
