/- A byte and its mark kept as one complex number: both are got back. -/
import Derived.Test.YtlgedbgpekfobaaLabD
namespace Go.Proofs.Ytlgedbgpekfobaa
open Go.RowKit

theorem float_all : ((List.range 256).all fun n => floatToIntVal .f64 (floatOfInt .f64 (n : Int)) .u8 == some (n : Int)) = true := by decide +kernel
theorem float_marks : ((List.range 16).all fun n => floatToIntVal .f64 (floatOfInt .f64 (n : Int)) .i64 == some (n : Int)) = true := by decide +kernel
theorem float_byte (n : Nat) (h : n < 256) : floatToIntVal .f64 (floatOfInt .f64 (n : Int)) .u8 = some (n : Int) := by
  have := List.all_eq_true.1 float_all n (by simpa using h)
  simpa using this
theorem float_mark (n : Nat) (h : n < 16) : floatToIntVal .f64 (floatOfInt .f64 (n : Int)) .i64 = some (n : Int) := by
  have := List.all_eq_true.1 float_marks n (by simpa using h)
  simpa using this
/-- A cell: a byte and its mark. -/
def cellV (c : UInt8) (m : Int) : Value := .complex .f64 (floatOfInt .f64 (c.toNat : Int)) (floatOfInt .f64 m)
theorem cellOf_any (c : UInt8) (m : Int) (w : World) :
    Calls Try.prog 52 #[.int .u8 (c.toNat : Int), .int .i64 m] w fun e w' => e = .returned (.complex .f64 (floatOfInt .f64 (c.toNat : Int)) (floatOfInt .f64 m)) ∧ w = w' := by
  go_enter Try.func52, Try.ntmps52
  go_wp2
  go_ret
  exact ⟨rfl, rfl⟩
theorem conv_byte (c : UInt8) (w : World) : (convert 78 5 (.float .f64 (floatOfInt .f64 (c.toNat : Int)))).run Try.prog w = .ok (.int .u8 (c.toNat : Int)) w :=
  run_convert_float_int w 78 5 .f64 .u8 _ _ (by rw [Try.underlying78]; rfl) Try.underlying5 (float_byte c.toNat c.toNat_lt)
theorem conv_mark (m : Int) (h0 : 0 ≤ m) (h1 : m ≤ 15) (w : World) : (convert 78 2 (.float .f64 (floatOfInt .f64 m))).run Try.prog w = .ok (.int .i64 m) w := by
  obtain ⟨n, rfl⟩ : ∃ n : Nat, m = (n : Int) := ⟨m.toNat, by omega⟩
  exact run_convert_float_int w 78 2 .f64 .i64 _ _ (by rw [Try.underlying78]; rfl) Try.underlying2 (float_mark n (by omega))
/-- The cells of a text and its marks. -/
def cellsL (T : List UInt8) (l : List Int) : List Value := List.zipWith cellV T l
theorem cellsL_len (T : List UInt8) (l : List Int) (h : T.length = l.length) : (cellsL T l).length = l.length := by simp [cellsL, h]
theorem cellsL_at (T : List UInt8) (l : List Int) (k : Nat) (h : k < (cellsL T l).length) (h1 : k < T.length) (h2 : k < l.length) : (cellsL T l)[k] = cellV T[k] l[k] := by simp [cellsL]
theorem cellsL_append {T S : List UInt8} {l m : List Int} (h : T.length = l.length) : cellsL T l ++ cellsL S m = cellsL (T ++ S) (l ++ m) := (List.zipWith_append h).symm
/-- A slice that reads as these cells. -/
def Reads (w : World) (v : Value) (cs : List Value) : Prop :=
  ∃ A cap, v = .slice A cs.length cap ∧ (0 < cs.length → ∃ b off, A = some ⟨b, off, none⟩ ∧ ∀ i (h : i < cs.length), w.cell? ⟨b, off + i, none⟩ = some cs[i])
theorem Reads.at_ {w : World} {A : Option Addr} {n cap : Nat} {cs : List Value} (h : Reads w (.slice A n cap) cs) (k : Nat) (hk : k < cs.length) : ∃ b off, A = some ⟨b, off, none⟩ ∧ b < w.heap.size ∧ w.cell? ⟨b, off + k, none⟩ = some cs[k] := by
  obtain ⟨A', cap', e, h2⟩ := h
  cases e
  obtain ⟨b, off, rfl, hc⟩ := h2 (by omega)
  exact ⟨b, off, rfl, World.block_lt_of_cell? w _ (hc k hk), hc k hk⟩
theorem Reads.form {w : World} {v : Value} {cs : List Value} (h : Reads w v cs) : ∃ A cap, v = .slice A cs.length cap := by
  obtain ⟨A, cap, rfl, h2⟩ := h; exact ⟨A, cap, rfl⟩
theorem Reads.below {w w' : World} {v : Value} {cs : List Value} (h : Reads w v cs) (k : Below w.heap.size w w') : Reads w' v cs := by
  obtain ⟨A, cap, rfl, h2⟩ := h
  refine ⟨A, cap, rfl, fun h0 => ?_⟩
  obtain ⟨b, off, rfl, hc⟩ := h2 h0
  exact ⟨b, off, rfl, fun i hi => cell_below k (Nat.le_refl _) _ _ (hc i hi)⟩
theorem Reads.alloc {w : World} {v : Value} {cs : List Value} (h : Reads w v cs) (o : Obj) : Reads (w.alloc o) v cs := h.below ((Below.refl _ _).alloc (Nat.le_refl _) _)
theorem Blk.reads {w : World} {g n cap : Nat} {t : TypeId} {cs : List Value} (h : Blk w g t cs) (hn : n = cs.length) : Reads w (.slice (some ⟨g, 0, none⟩) n cap) cs := by
  subst hn
  exact ⟨_, _, rfl, fun _ => ⟨g, 0, rfl, fun i hi => by rw [Nat.zero_add]; exact h.cell i hi⟩⟩
theorem Blk.part {w : World} {g f e c : Nat} {t : TypeId} {cs : List Value} (h : Blk w g t cs) (h1 : f ≤ e) (h2 : e ≤ cs.length) : Reads w (.slice (some ⟨g, f, none⟩) (e - f) c) ((cs.drop f).take (e - f)) := by
  have hl : ((cs.drop f).take (e - f)).length = e - f := by simp; omega
  refine ⟨_, _, by rw [hl], fun _ => ⟨g, f, rfl, fun i hi => ?_⟩⟩
  rw [h.cell (f + i) (by omega)]
  simp
theorem Blk.other {w : World} {g g' i : Nat} {t : TypeId} {cs : List Value} (h : Blk w g t cs) (hne : g ≠ g') (u : Value) : Blk (w.setCell ⟨g', i, none⟩ u) g t cs := (Below.heap_setCell w ⟨g', i, none⟩ u g hne).trans h
theorem Reads.empty (w : World) (A : Option Addr) (cap : Nat) : Reads w (.slice A 0 cap) [] := ⟨A, cap, rfl, fun h => by simp at h⟩
theorem own_reads {w : World} {base : Nat} {e : TypeId} {v : Value} {cs : List Value} (h : w.ownsRow base e 1 v cs.length cs) : Reads w v cs := by
  have hc := fun (g : Nat) (hg : v.ownBlock = some g) => World.ownsRow.cells h hg
  rcases h.2 with ⟨rfl, hn⟩ | ⟨g, cap, cur, rfl, hb, hh, hnc, hcm, hcs, ht⟩
  · exact ⟨none, 0, by rw [hn], fun h0 => by omega⟩
  · refine ⟨_, cap, rfl, fun h0 => ⟨g, 0, rfl, fun i hi => ?_⟩⟩
    have := hc g rfl i cs[i] (List.getElem?_eq_getElem hi)
    have e1 : (⟨g, 0, none⟩ : Addr).add i = ⟨g, 0 + i, none⟩ := by unfold Addr.add; split <;> simp_all
    rw [← e1]; exact this
def bytesOf (l : List UInt8) : ByteArray := ⟨l.toArray⟩
theorem bytesOf_list (l : List UInt8) : (bytesOf l).data.toList = l := by simp [bytesOf]
theorem bytesOf_size (l : List UInt8) : (bytesOf l).size = l.length := by show l.toArray.size = _; simp
theorem bytesOf_data (t : ByteArray) : bytesOf t.data.toList = t := by cases t; simp [bytesOf]
theorem strV_of (l : List UInt8) : strV l = .string (bytesOf l) := rfl
theorem Blk.string {P : Program} {w : World} {g n cap : Nat} {src dst e t : TypeId} {l : List UInt8} (hs : P.underlying src = some (.slice e)) (he : P.underlying e = some (.int .u8)) (hd : P.underlying dst = some .string)
    (h : Blk w g t (l.map byteV)) (hn : l.length = n) : (convert src dst (.slice (some ⟨g, 0, none⟩) n cap)).run P w = .ok (.string (bytesOf l)) w :=
  block_string hs he hd h hn fun j hj => by simp [List.getElem?_eq_getElem hj]
theorem Try.info70 : (Try.prog.info? 70).map (fun i => (i.zero, i.size, i.bytes)) = some (some (.complex .f64 0 0), 1, 16) := by kernel_rfl
theorem Try.infoB5 : (Try.prog.info? 5).map (fun i => (i.zero, i.size, i.bytes)) = some (some (.int .u8 0), 1, 1) := by kernel_rfl

set_option maxHeartbeats 2000000 in
theorem lab_any (T : List UInt8) (l : List Int) (v : Value) (w : World) (hT : T.length = l.length) (hl : l.length ≤ 1048576) (hm : ∀ m ∈ l, 0 ≤ m ∧ m ≤ 15) (hv : Reads w v (cellsL T l)) :
    Calls Try.prog 43 #[v] w (LabEnd w.heap.size (bytesOf T) l w) := by
  obtain ⟨i0, hi, hz0, hz1, hz2⟩ := info_parts Try.infoB5
  obtain ⟨i1, ji, jz0, jz1, jz2⟩ := info_parts Try.info2
  obtain ⟨A, cap, rfl⟩ := hv.form
  rw [cellsL_len T l hT] at hv ⊢
  have hv' := Lib.hid hv
  have hT' := Lib.hid hT
  have hm' := Lib.hid hm
  clear hv hT hm
  have hbel := Lib.hid (Below.refl (w.heap.size + 1) (w.alloc (.cells #[.string ⟨#[]⟩, .slice none 0 0] 25)))
  go_enter Try.func43, Try.ntmps43
  go_wp2_with (first
    | ((with_reducible show wpList _ _ _ (⟨some 9, _, _, _, _, _⟩ :: _) _ _); refine wpList_make_blk rfl (.tmp 8) (.tmp 8) 22 rfl (w.heap.size + 1) 5 i0 (.int .u8 0) 1 Try.underlying22 hi hz0 hz1 hz2 rfl _ _ _ _ l.length rfl rfl rfl rfl (by omega) (by omega) hbel.out (by simp) ?_; intro w1 hr1 hb1; have hz1 := hb1.size; simp only [World.size_alloc] at hr1 hz1; replace hr1 := Lib.hid hr1; replace hb1 := Lib.hid hb1)
    | ((with_reducible show wpList _ _ _ (⟨some 12, _, _, _, _, _⟩ :: _) _ _); refine wpList_make_blk rfl (.tmp 11) (.tmp 11) 23 rfl w1.heap.size 2 i1 (.int .i64 0) 8 Try.underlying23 ji jz0 jz1 jz2 rfl _ _ _ _ l.length rfl rfl rfl rfl (by omega) (by omega) (Below.refl _ _) (Nat.le_refl _) ?_; intro w2 hr2 hb12; have hb2 := Lib.hid (Below.then_ hb1.out hb12 (by simp)); replace hr1 := Lib.hid (And.intro hr1.out.lt (hr1.out.below hb12 hr1.out.lt)); replace hr2 := Lib.hid hr2; clear hb12))
  have hlt1 : w.heap.size + 1 < w1.heap.size := hr1.out.1
  have hq1 := Lib.hid (show Blk w2 (w.heap.size + 1) 5 (fill (T.map byteV) 0 (.int .u8 0)) by rw [fill_zero, List.length_map, hT'.out]; exact hr1.out.2)
  have hq2 := Lib.hid (show Blk w2 w1.heap.size 2 (fill (l.map intV) 0 (.int .i64 0)) by rw [fill_zero, List.length_map]; exact hr2.out)
  clear hr1 hr2 hb1 hbel
  obtain ⟨G, hG⟩ : ∃ G, G = w1.heap.size := ⟨_, rfl⟩
  rw [← hG] at hq2 ⊢
  rw [← hG] at hlt1
  clear hG hz1
  go_loopw [15] (fun i wr => ∃ k : Nat, k ≤ l.length ∧ i = .int .i64 k ∧ Blk wr (w.heap.size + 1) 5 (fill (T.map byteV) k (.int .u8 0)) ∧ Blk wr G 2 (fill (l.map intV) k (.int .i64 0)) ∧ Below (w.heap.size + 1) (w.alloc (.cells #[.string ⟨#[]⟩, .slice none 0 0] 25)) wr) (fun i _ => l.length - (intOf i).toNat)
  case atStart => exact ⟨0, Nat.zero_le _, rfl, hq1.out, hq2.out, hb2.out⟩
  case round =>
    obtain ⟨k, hk, rfl, h1, h2, hb⟩ := hrel
    have hres : Blk wr w.heap.size 25 [.string ⟨#[]⟩, .slice none 0 0] := (hb.block w.heap.size (by omega)).trans (heap_alloc_new w _)
    have hwlt := h2.lt
    by_cases hlt : k < l.length
    · have hltT : k < T.length := by have := hT'.out; omega
      obtain ⟨b, off, rfl, hbk, hck⟩ := ((hv'.out.alloc _).below (hb.mono (by simp))).at_ k (by rw [cellsL_len T l hT'.out]; exact hlt)
      rw [cellsL_at T l k _ hltT hlt] at hck
      have hcd : wr.cell? ⟨b, off + k, none⟩ = some (.complex .f64 (floatOfInt .f64 (T[k].toNat : Int)) (floatOfInt .f64 l[k])) := hck
      clear hck
      have hlt' : (k : Int) < (l.length : Int) := by omega
      have hx1 := h1.cell k (by rw [fill_len, List.length_map]; exact hltT)
      have hf1 := h1.free k
      have hx2 := h2.cell k (by rw [fill_len, List.length_map]; exact hlt)
      have hf2 := h2.free k
      have hml := hm'.out l[k] (List.getElem_mem hlt)
      have hcv1 := fun w => conv_byte T[k] w
      have hcv2 := fun w => conv_mark l[k] hml.1 hml.2 w
      have k1 := (h1.set k (.int .u8 (T[k].toNat : Int))).other (i := k) (show w.heap.size + 1 ≠ G by omega) (.int .i64 l[k])
      rw [fill_set _ _ _ (by rw [List.length_map]; exact hltT) _ (by simp [byteV])] at k1
      have k2 := (h2.other (i := k) (show G ≠ w.heap.size + 1 by omega) (.int .u8 (T[k].toNat : Int))).set k (.int .i64 l[k])
      rw [fill_set _ _ _ (by rw [List.length_map]; exact hlt) _ (by simp [intV])] at k2
      have k3 := (hb.setCell (p := ⟨w.heap.size + 1, k, none⟩) (Nat.le_refl _) (.int .u8 (T[k].toNat : Int))).setCell (p := ⟨G, k, none⟩) (show w.heap.size + 1 ≤ G by omega) (.int .i64 l[k])
      replace k1 := Lib.hid k1
      replace k2 := Lib.hid k2
      replace k3 := Lib.hid k3
      have hne1 : ¬ G = w.heap.size + 1 := by omega
      have hne2 : ¬ w.heap.size + 1 = G := by omega
      clear h1 h2 hb hres
      go_wp2
      go_roundw
      case rel => exact ⟨k + 1, by omega, by go_num, k1.out, k2.out, k3.out⟩
      case measure => simp [intOf]; omega
    · have hlt' : ¬ (k : Int) < (l.length : Int) := by omega
      have hr0 : wr.cell? ⟨w.heap.size, 0, none⟩ = some (.string ⟨#[]⟩) := hres.cell 0 (by simp)
      have hr1 : wr.cell? ⟨w.heap.size, 1, none⟩ = some (.slice none 0 0) := hres.cell 1 (by simp)
      have hf0 := hres.free 0
      have hf1 := hres.free 1
      rw [fill_all _ _ _ (by rw [List.length_map, hT'.out]; omega)] at h1
      rw [fill_all _ _ _ (by rw [List.length_map]; omega)] at h2
      have hconv := h1.string (P := Try.prog) (n := l.length) (cap := l.length) Try.underlying22 Try.underlying5 Try.underlying9 hT'.out
      replace h2 := Lib.hid h2
      replace hb := Lib.hid hb
      clear h1 hres
      go_wp2
      refine bodyPost_ret (v := .agg #[.string (bytesOf T), .slice (some ⟨G, 0, none⟩) l.length l.length]) (by simp [results, Try.results43, go_sem, hr0, hr1]) rfl ⟨_, _, rfl, ?_, ?_⟩
      · exact ((h2.out.own rfl hl (by omega) : OwnInts wr (w.heap.size + 1) _ l).setCell _ _ _ (by omega)).setCell _ _ _ (by omega) |>.mono (by omega)
      · exact ((((Below.refl _ _).alloc (Nat.le_refl _) _).trans (hb.out.mono (by omega))).setCell (by simp) _).setCell (by simp) _
/-- The cells of a right Lab. -/
def CellsEnd (base : Nat) (cs : List Value) (w : World) (e : Ending) (w' : World) : Prop := ∃ g, e = .returned (.slice (some ⟨g, 0, none⟩) cs.length cs.length) ∧ base ≤ g ∧ Blk w' g 70 cs ∧ Below base w w'
theorem str_at (t : ByteArray) (k : Nat) (_h : k < t.size) (h2 : k < t.data.toList.length) : t.data.toList[k] = t[k] := rfl
set_option maxHeartbeats 2000000 in
theorem cellsOf_any (t : ByteArray) (l : List Int) (v : Value) (w : World) (ht : l.length = t.size) (hv : Ints w v l) :
    Calls Try.prog 42 #[.agg #[.string t, v]] w (CellsEnd w.heap.size (cellsL t.data.toList l) w) := by
  obtain ⟨i0, hi, hz0, hz1, hz2⟩ := info_parts Try.info70
  have hl1 := hv.1
  obtain ⟨A, cap, rfl⟩ := hv.form
  have hT : t.data.toList.length = l.length := by rw [ht]; simp
  have hcl := cellsL_len t.data.toList l hT
  have hv' := Lib.hid hv
  have ht' := Lib.hid ht
  have hT' := Lib.hid hT
  have hlt1 : t.size ≤ 1048576 := by omega
  replace hcl := Lib.hid hcl
  clear hv hT ht
  have hbel := Lib.hid (Below.refl (w.heap.size + 1) (w.alloc (.cells #[.string t, .slice A l.length cap] 25)))
  go_enter Try.func42, Try.ntmps42
  go_wp2_with ((with_reducible show wpList _ _ _ (⟨some 9, _, _, _, _, _⟩ :: _) _ _); refine wpList_make_blk rfl (.tmp 8) (.tmp 8) 60 rfl (w.heap.size + 1) 70 i0 (.complex .f64 0 0) 16 Try.underlying60 hi hz0 hz1 hz2 rfl _ _ _ _ t.size rfl rfl rfl rfl (by omega) (by omega) hbel.out (by simp) ?_; intro w1 hr1 hb1; simp only [World.size_alloc] at hr1; have hres1 : Blk w1 w.heap.size 25 [.string t, .slice A l.length cap] := (hb1.block w.heap.size (by omega)).trans (heap_alloc_new w _); have c1 : w1.cell? ⟨w.heap.size, 1, none⟩ = some (.slice A l.length cap) := hres1.cell 1 (by simp); replace hres1 := Lib.hid hres1; replace hr1 := Lib.hid hr1; replace hb1 := Lib.hid hb1)
  have hq := Lib.hid (show Blk w1 (w.heap.size + 1) 70 (fill (cellsL t.data.toList l) 0 (.complex .f64 0 0)) by rw [fill_zero, hcl.out, ht'.out]; exact hr1.out)
  clear hr1 hbel
  go_loopw [13] (fun i wr => ∃ k : Nat, k ≤ l.length ∧ i = .int .i64 k ∧ Blk wr (w.heap.size + 1) 70 (fill (cellsL t.data.toList l) k (.complex .f64 0 0)) ∧ Below (w.heap.size + 1) (w.alloc (.cells #[.string t, .slice A l.length cap] 25)) wr) (fun i _ => l.length - (intOf i).toNat)
  case atStart => exact ⟨0, Nat.zero_le _, rfl, hq.out, hb1.out⟩
  case round =>
    obtain ⟨k, hk, rfl, h1, hb⟩ := hrel
    have hres : Blk wr w.heap.size 25 [.string t, .slice A l.length cap] := (hb.block w.heap.size (by omega)).trans (heap_alloc_new w _)
    have hwlt := h1.lt
    by_cases hlt : k < l.length
    · have hltT : k < t.size := by have := ht'.out; omega
      have hltS : (k : Int) < (t.size : Int) := by omega
      obtain ⟨b, off, rfl, hbk, hck⟩ := ((hv'.out.alloc _).below (hb.mono (by simp))).at_ k hlt
      have hlt' : (k : Int) < (l.length : Int) := by omega
      have hx1 := h1.cell k (by rw [fill_len, hcl.out]; exact hlt)
      have hf1 := h1.free k
      have k1 := h1.set k (.complex .f64 (floatOfInt .f64 (t[k].toNat : Int)) (floatOfInt .f64 l[k]))
      rw [fill_set _ _ _ (by rw [hcl.out]; exact hlt) _ (by rw [cellsL_at _ _ _ _ (by rw [hT'.out]; exact hlt) hlt]; rfl)] at k1
      have k3 := hb.setCell (p := ⟨w.heap.size + 1, k, none⟩) (Nat.le_refl _) (.complex .f64 (floatOfInt .f64 (t[k].toNat : Int)) (floatOfInt .f64 l[k]))
      replace k1 := Lib.hid k1
      replace k3 := Lib.hid k3
      have hr0 : wr.cell? ⟨w.heap.size, 0, none⟩ = some (.string t) := hres.cell 0 (by simp)
      clear h1 hb hres
      have hst := fun (w : World) (a : Addr) (m : Mode) => run_store Try.prog w a (.complex .f64 (floatOfInt .f64 (t[k].toNat : Int)) (floatOfInt .f64 l[k])) m rfl
      go_wp2_with (go_at_call 52; refine (cellOf_any _ _ _).mono ?_; rintro e w' ⟨rfl, rfl⟩)
      go_roundw
      case rel => exact ⟨k + 1, by omega, by go_num, k1.out, k3.out⟩
      case measure => simp [intOf]; omega
    · have hlt' : ¬ (k : Int) < (l.length : Int) := by omega
      rw [fill_all _ _ _ (by rw [hcl.out]; omega)] at h1
      replace h1 := Lib.hid h1
      replace hb := Lib.hid hb
      clear hres
      go_wp2
      go_ret
      exact ⟨w.heap.size + 1, by rw [hcl.out, ht'.out]; rfl, by omega, h1.out, ((Below.refl _ _).alloc (Nat.le_refl _) _).trans (hb.out.mono (by omega))⟩
end Go.Proofs.Ytlgedbgpekfobaa
