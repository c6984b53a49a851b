/- Small facts that the walks share: endings, rows of bytes of the call's own read as strings. -/
import Derived.Test.YtbadpmghlclfkaaDoorRows
import Derived.WalkKit
import Derived.WalkSpells
import Derived.WalkLawsBesides
import Derived.Lib.Hide
import Derived.Lib.BufferWrite
import Derived.Laws.CopyOwn
namespace Go.Proofs.YtbadpmghlclfkaaDoor
open Go.RowKit

theorem ret_bool {a b : Bool} (h : a = b) : Ending.returned (.bool a) = .returned (.bool b) := by rw [h]
theorem ret_int {k : IntKind} {a b : Int} (h : a = b) : Ending.returned (.int k a) = .returned (.int k b) := by rw [h]
theorem ret_val {a b : Value} (h : a = b) : Ending.returned a = .returned b := by rw [h]
theorem wf_i64 {n : Int} (hn : (Lit.int .i64 n).wf = true) : -9223372036854775808 ≤ n ∧ n ≤ 9223372036854775807 := by
  simpa [Lit.wf, show IntKind.i64.min = -9223372036854775808 from by decide] using hn

/-- A byte as a cell; a text as a value. -/
def byteV (c : UInt8) : Value := .int .u8 (c.toNat : Int)
def strV (l : List UInt8) : Value := .string ⟨l.toArray⟩
theorem byteV_of (n : Nat) (h : n < 256) : Value.int .u8 (n : Int) = byteV (UInt8.ofNat n) := by
  unfold byteV; rw [UInt8.toNat_ofNat_of_lt' h]
theorem byteV_one (c : UInt8) : (byteV c).oneCell' = true := rfl
theorem strV_data (s : ByteArray) : strV s.data.toList = .string s := by unfold strV; simp

/-- A row of bytes of the call's own: the slice value v holds just the bytes l. -/
def OwnBytes (w : World) (base : Nat) (e : TypeId) (v : Value) (l : List UInt8) : Prop := w.ownsRow base e 1 v l.length (l.map byteV)
theorem OwnBytes.alloc {w : World} {base : Nat} {e : TypeId} {v : Value} {l : List UInt8} (h : OwnBytes w base e v l) (o : Obj) : OwnBytes (w.alloc o) base e v l := World.ownsRow.alloc h o
theorem new_byte (w : World) (c : UInt8) (u : Int) (t : TypeId) (h : u = (c.toNat : Int)) : (w.alloc (.cells #[.int .u8 u] t)).cell? ⟨w.heap.size, 0, none⟩ = some (byteV c) := by
  rw [World.cell?_alloc_new, h]; rfl

/-- Such a row, turned into a string. -/
theorem own_string {P : Program} {w : World} {base : Nat} {src dst e : TypeId} {v : Value} {l : List UInt8} (hs : P.underlying src = some (.slice e)) (he : P.underlying e = some (.int .u8)) (hd : P.underlying dst = some .string)
    (h : OwnBytes w base e v l) : (convert src dst v).run P w = .ok (strV l) w := by
  rcases h.2 with ⟨rfl, hn⟩ | ⟨g, cap, cur, rfl, hb, hh, hnc, hcm, hcs, ht⟩
  · have hl0 : l = [] := by apply List.eq_nil_of_length_eq_zero; omega
    subst hl0
    exact run_convert_bytes_nil w src e hs he 0 0 dst hd
  · refine run_convert_bytes_back w src dst e ⟨g, 0, none⟩ cap l hs he hd fun j hj => ?_
    have hx : (l.map byteV)[j]? = some (byteV l[j]) := by simp [List.getElem?_eq_getElem hj]
    have hc := World.ownsRow.cells (g := g) (w := w) ⟨h.1, .inr ⟨g, cap, cur, rfl, hb, hh, hnc, hcm, hcs, ht⟩⟩ rfl j _ hx
    exact hc
/-- A block known whole, whose first cells are the bytes l, cut at their number and turned into a string. -/
theorem block_string {P : Program} {w : World} {g : Nat} {src dst e t : TypeId} {cs : Array Value} {n cap : Nat} {l : List UInt8} (hs : P.underlying src = some (.slice e)) (he : P.underlying e = some (.int .u8)) (hd : P.underlying dst = some .string)
    (hb : w.heap[g]? = some (.cells cs t (0, 0))) (hn : l.length = n) (hc : ∀ j (hj : j < l.length), cs[j]? = some (byteV l[j])) : (convert src dst (.slice (some ⟨g, 0, none⟩) n cap)).run P w = .ok (strV l) w := by
  rw [← hn]
  refine run_convert_bytes_back w src dst e ⟨g, 0, none⟩ cap l hs he hd fun j hj => ?_
  have e1 : (⟨g, 0, none⟩ : Addr).add j = ⟨g, j, none⟩ := by unfold Addr.add; split <;> simp_all
  rw [e1, cell_of_row _ _ _ _ _ _ hb, hc j hj]; rfl
theorem set_block {w : World} {g : Nat} {t : TypeId} {cs : Array Value} (h : w.heap[g]? = some (.cells cs t (0, 0))) (i : Nat) (u : Value) : (w.setCell ⟨g, i, none⟩ u).heap[g]? = some (.cells (cs.setIfInBounds i u) t (0, 0)) := by
  simp [World.setCell, Array.getElem?_modify, h]
theorem set_next {cs : Array Value} {xs : List UInt8} {c : UInt8} (hl : xs.length < cs.size) (hc : ∀ j (hj : j < xs.length), cs[j]? = some (byteV xs[j])) :
    ∀ j (hj : j < (xs ++ [c]).length), (cs.setIfInBounds xs.length (byteV c))[j]? = some (byteV (xs ++ [c])[j]) := by
  intro j hj
  simp only [List.length_append, List.length_cons, List.length_nil] at hj
  by_cases h : j = xs.length
  · subst h
    rw [Array.getElem?_setIfInBounds, if_pos rfl, if_pos hl]; simp
  · rw [Array.getElem?_setIfInBounds, if_neg (by omega), hc j (by omega), List.getElem_append_left (by omega)]
theorem ofNat_int (n : Nat) (h : n < 256) : ((UInt8.ofNat n).toNat : Int) = (n : Int) := by rw [UInt8.toNat_ofNat_of_lt' h]
theorem own_base {w : World} {base : Nat} {e : TypeId} {size n : Nat} {v : Value} {xs : List Value} (h : w.ownsRow base e size v n xs) {k : Nat} (hk : v.ownBlock = some k) : base ≤ k := by
  rcases h.2 with ⟨rfl, _⟩ | ⟨g, cap, cur, rfl, hb, _⟩
  · simp [Value.ownBlock] at hk
  · simp [Value.ownBlock] at hk; omega
theorem own_kept {w0 w w' : World} {base : Nat} {e : TypeId} {size n : Nat} {v : Value} {xs : List Value} (h : w.ownsRow base e size v n xs) (hb : Below base w0 w) (hg : w.grownBy w' v.ownBlock) (hB : base ≤ w.heap.size) : Below base w0 w' :=
  hb.grown hg hB fun _ hk => own_base h hk

/-- One byte appended to a row of bytes of the call's own. -/
theorem wpList_append_byte {P : Program} {w w0 : World} {ops : Array Oper} {rest : List Oper} {o : Oper} {a : Act} {Q : Exit → Act → World → Prop} (hgd : o.guard = none) (s x : Operand) (t : TypeId)
    (ho : o.op = .call { callee := .builtin .append, args := #[s, x], argTypes := #[t, t] })
    (base : Nat) (e : TypeId) (i : TypeInfo) (ht : P.underlying t = some (.slice e)) (hi : P.info? e = some i) (hz : i.zero = some (.int .u8 0)) (hsize : i.size = 1) (hby : i.bytes = 1)
    (v : Value) (l : List UInt8) (hs : a.eval s = v) (hown : OwnBytes w base e v l) (g : Nat) (c : UInt8) (hx : a.eval x = .slice (some ⟨g, 0, none⟩) 1 1)
    (hc : w.cell? ⟨g, 0, none⟩ = some (byteV c)) (hlen : l.length < 70368744177664) (hbel : Below base w0 w) (hB : base ≤ w.heap.size)
    (h : ∀ v' w', OwnBytes w' base e v' (l ++ [c]) → Below base w0 w' → wpList P ops Q rest (a.put o.dst v') w') : wpList P ops Q (o :: rest) a w := by
  refine wpList_append_own w hgd s x t ho base e i (.int .u8 0) 1 1 ht hi hz hsize hby rfl (by decide) v l.length (l.map byteV) hs hown ⟨g, 0, none⟩ 1 1 [byteV c] hx rfl ?_ ?_ (by unfold maxLen; omega) (by omega) hB ?_
  · intro j u hj
    match j, hj with
    | 0, hj => simp at hj; subst hj; exact hc
  · intro u hu; simp at hu; subst hu; rfl
  · intro v' w' ho' hg _
    refine h v' w' ?_ (own_kept hown hbel hg hB)
    unfold OwnBytes
    rw [List.map_append, List.length_append]; exact ho'
/-- Block g is a row of n cells, the first of which are the bytes l; none is frozen. -/
def RowHas (w : World) (g : Nat) (t : TypeId) (n : Nat) (l : List UInt8) : Prop := ∃ cs : Array Value, w.heap[g]? = some (.cells cs t (0, 0)) ∧ cs.size = n ∧ ∀ j (hj : j < l.length), cs[j]? = some (byteV l[j])
theorem RowHas.lt {w : World} {g n : Nat} {t : TypeId} {l : List UInt8} (h : RowHas w g t n l) : g < w.heap.size := by obtain ⟨cs, h, _⟩ := h; exact lt_of_block h
theorem RowHas.string {P : Program} {w : World} {g n cap : Nat} {src dst e t : TypeId} {l : List UInt8} (hs : P.underlying src = some (.slice e)) (he : P.underlying e = some (.int .u8)) (hd : P.underlying dst = some .string)
    (h : RowHas w g t n l) {k : Nat} (hk : l.length = k) : (convert src dst (.slice (some ⟨g, 0, none⟩) k cap)).run P w = .ok (strV l) w := by
  obtain ⟨cs, hb, _, hc⟩ := h
  exact block_string hs he hd hb hk hc
theorem RowHas.fill {w : World} {g n : Nat} {t : TypeId} {l : List UInt8} (h : RowHas w g t n l) (m : List UInt8) (hm : l.length + m.length ≤ n) :
    ∃ cs : Array Value, w.heap[g]? = some (.cells cs t (0, 0)) ∧ cs.size = n ∧ ∀ w' : World, w'.heap[g]? = some (.cells (cs.toList.take l.length ++ m.map byteV ++ cs.toList.drop (l.length + m.length)).toArray t (0, 0)) → RowHas w' g t n (l ++ m) := by
  obtain ⟨cs, hb, hn, hc⟩ := h
  refine ⟨cs, hb, hn, fun w' hw' => ⟨_, hw', ?_, fun j hj => ?_⟩⟩
  · simp; omega
  · have hcl : cs.toList.length = n := by simpa using hn
    simp only [List.getElem?_toArray]
    by_cases h1 : j < l.length
    · rw [List.append_assoc, List.getElem?_append_left (by simp; omega), List.getElem?_take_of_lt h1]
      have := hc j h1
      rw [List.getElem_append_left h1]
      simpa using this
    · simp only [List.length_append] at hj
      rw [List.getElem?_append_left (by simp; omega), List.getElem?_append_right (by simp; omega), List.getElem_append_right (by omega)]
      have e1 : (cs.toList.take l.length).length = l.length := by simp; omega
      rw [e1, List.getElem?_map, List.getElem?_eq_getElem (by omega)]; rfl

/-- make([]byte, n): a row of which nothing is said yet. -/
theorem wpList_make_bytes {P : Program} {w w0 : World} {ops : Array Oper} {rest : List Oper} {o : Oper} {a : Act} {Q : Exit → Act → World → Prop} (hg : o.guard = none) (l c : Operand) (t : TypeId) (hop : o.op = Op.makeSlice t l c)
    (base : Nat) (e : TypeId) (i : TypeInfo) (ht : P.underlying t = some (.slice e)) (hi : P.info? e = some i) (hz : i.zero = some (.int .u8 0)) (hsize : i.size = 1) (hby : i.bytes = 1)
    (kl kc : IntKind) (L C : Int) (n : Nat) (hl : a.eval l = .int kl L) (hc : a.eval c = .int kc C) (hL : L = (n : Int)) (hC : C = (n : Int)) (hn : n < 70368744177664) (hbel : Below base w0 w) (hB : base ≤ w.heap.size)
    (h : ∀ w', RowHas w' w.heap.size e n [] → Below base w0 w' → wpList P ops Q rest (a.put o.dst (.slice (some ⟨w.heap.size, 0, none⟩) n n)) w') : wpList P ops Q (o :: rest) a w := by
  refine wpList_make_full w hg l c t hop base e i (.int .u8 0) 1 ht hi hz hsize kl kc L C n hl hc hL hC (by rw [hby]; omega) (by unfold maxLen; omega) hB ?_
  intro w' ho hg'
  refine h w' ?_ (hbel.grown hg' hB (fun k hk => by simp at hk))
  rcases ho.2 with ⟨h', _⟩ | ⟨g, cap, cur, h', _, hh, _, _, hcs, _⟩
  · simp at h'
  · simp at h'
    obtain ⟨rfl, rfl⟩ := h'
    exact ⟨cur, hh, by simpa using hcs, fun j hj => by simp at hj⟩
/-- copy of a string to just behind what is known of a row. -/
theorem wpList_copy_fill {P : Program} {w w0 : World} {ops : Array Oper} {rest : List Oper} {o : Oper} {a : Act} {Q : Exit → Act → World → Prop} (hgd : o.guard = none) (d s : Operand) (dT sT : TypeId)
    (ho : o.op = .call { callee := .builtin .copy, args := #[d, s], argTypes := #[dT, sT] }) (elem : TypeId) (hu : P.underlying dT = some (.slice elem)) (hsz : (P.info? elem).map (·.size) = some 1)
    (dp : Option Addr) (dLen dCap : Nat) (x : ByteArray) (hd : a.eval d = .slice dp dLen dCap) (hs : a.eval s = .string x)
    (g n : Nat) (t : TypeId) (l : List UInt8) (hrow : RowHas w g t n l) (hle : x.size ≤ dLen) (hfit : l.length + x.size ≤ n) (hpos : 0 < x.size → dp = some ⟨g, l.length, none⟩) (B : Nat) (hb : Below B w0 w) (hBg : B ≤ g)
    (h : ∀ w', RowHas w' g t n (l ++ x.data.toList) → Below B w0 w' → wpList P ops Q rest (a.put o.dst (goInt x.size)) w') : wpList P ops Q (o :: rest) a w := by
  have hxl : x.data.toList.length = x.size := by simp
  by_cases h0 : x.size = 0
  · refine wpList_plain hgd fun K hK => ?_
    have hrun := Lib.run_copy_empty_string (P := P) w dT sT o.type elem dp dLen dCap x hu (by rw [hsz]; rfl) h0
    have hx0 : x.data.toList = [] := List.eq_nil_of_length_eq_zero (by omega)
    unfold Oper.wp
    simp [execOp, ho, resolve, invoke, builtin, hd, hs, hrun, Result.andThen]
    rw [hx0, List.append_nil] at h
    have := h w hrow hb
    rw [h0] at this
    exact hK _ _ this
  · obtain ⟨cs, hg, hcn, hf⟩ := hrow.fill x.data.toList (by omega)
    have hdp := hpos (by omega)
    subst hdp
    refine wpList_plain hgd fun K hK => ?_
    have hrun := Lib.run_copy_row_string (P := P) w dT sT o.type elem g l.length dLen dCap x cs t hu hsz hg hle (by omega)
    unfold Oper.wp
    simp [execOp, ho, resolve, invoke, builtin, hd, hs, hrun, Result.andThen]
    refine hK _ _ (h _ (hf _ ?_) (below_setRow hb hBg _))
    rw [setRow_heap w g cs _ t (0, 0) hg, hxl, List.append_assoc]; rfl
/-- A block of three cells that is known whole, carried over a call: the facts that a store into it asks. -/
def Trio (w : World) (g : Nat) (t : TypeId) (x y z : Value) : Prop := w.heap[g]? = some (.cells #[x, y, z] t (0, 0))
theorem Trio.new (w : World) (t : TypeId) (x y z : Value) : Trio (w.alloc (.cells #[x, y, z] t)) w.heap.size t x y z := heap_alloc_new w _
theorem Trio.below {w w' : World} {g B : Nat} {t : TypeId} {x y z : Value} (h : Trio w g t x y z) (hb : Below B w w') (hg : g < B) : Trio w' g t x y z := (hb.block g hg).trans h
theorem Trio.drew {w : World} {g : Nat} {t : TypeId} {x y z : Value} (h : Trio w g t x y z) : Trio w.drew g t x y z := h
theorem Trio.alloc {w : World} {g : Nat} {t : TypeId} {x y z : Value} (h : Trio w g t x y z) (o : Obj) : Trio (w.alloc o) g t x y z := (Below.heap_alloc w o g (lt_of_block h)).trans h
theorem Trio.facts {w : World} {g : Nat} {t : TypeId} {x y z : Value} (h : Trio w g t x y z) :
    w.cell? ⟨g, 0, none⟩ = some x ∧ w.cell? ⟨g, 1, none⟩ = some y ∧ w.cell? ⟨g, 2, none⟩ = some z ∧ w.frozen? ⟨g, 0, none⟩ = false ∧ w.frozen? ⟨g, 1, none⟩ = false ∧ w.frozen? ⟨g, 2, none⟩ = false := by
  unfold Trio at h
  refine ⟨?_, ?_, ?_, ?_, ?_, ?_⟩
  · rw [cell_of_row _ _ _ _ _ _ h]; rfl
  · rw [cell_of_row _ _ _ _ _ _ h]; rfl
  · rw [cell_of_row _ _ _ _ _ _ h]; rfl
  all_goals simp [World.frozen?, h]
theorem Trio.set {w : World} {g : Nat} {t : TypeId} {x y z : Value} (h : Trio w g t x y z) (x' y' z' : Value) : Trio (((w.setCell ⟨g, 0, none⟩ x').setCell ⟨g, 1, none⟩ y').setCell ⟨g, 2, none⟩ z') g t x' y' z' := by
  unfold Trio at h ⊢
  rw [set_block (set_block (set_block h 0 x') 1 y') 2 z']; rfl
/-- A list of bytes as a text. -/
def bytesOf (l : List UInt8) : ByteArray := ⟨l.toArray⟩
theorem bytesOf_list (l : List UInt8) : (bytesOf l).data.toList = l := by simp [bytesOf]
theorem bytesOf_size (l : List UInt8) : (bytesOf l).size = l.length := by show l.toArray.size = _; simp
theorem below_drew {B : Nat} {w w' : World} (h : Below B w w') : Below B w w'.drew := ⟨h.os, h.tape, h.output, h.size, h.block⟩
end Go.Proofs.YtbadpmghlclfkaaDoor
