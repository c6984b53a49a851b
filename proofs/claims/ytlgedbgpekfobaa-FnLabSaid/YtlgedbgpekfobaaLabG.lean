/- The program's marked texts: redacted, all marks, compared. -/
import Derived.Test.YtlgedbgpekfobaaLabF
import Derived.Lib.SlBytesConst
namespace Go.Proofs.Ytlgedbgpekfobaa
open Go.RowKit

/-- A row that holds the bytes l, from its first cell on; none is frozen. -/
def Buf (w : World) (g : Nat) (l : List UInt8) : Prop := g < w.heap.size ∧ ∀ j (hj : j < l.length), w.cell? ⟨g, j, none⟩ = some (byteV l[j]) ∧ w.frozen? ⟨g, j, none⟩ = false
theorem to_bytes (w : World) (l : List UInt8) (k : Nat) (hk : k = l.length) : ∃ (cap : Nat) (w' : World), (convert 9 22 (.string (bytesOf l))).run Try.prog w = .ok (.slice (some ⟨w.heap.size, 0, none⟩) k cap) w' ∧ Buf w' w.heap.size l ∧ Below w.heap.size w w' := by
  subst hk
  refine ⟨_, _, by rw [← bytesOf_size]; exact run_bytes_of_string w 9 22 5 (bytesOf l) Try.underlying9 Try.underlying22 Try.underlying5, ⟨by simp, fun j hj => ?_⟩, ?_⟩
  · have hj' : j < (bytesOf l).data.size := by show j < l.toArray.size; simpa using hj
    have hblk := heap_alloc_new w.drew (.cells (bytesRow (bytesOf l) (grownCap w (bytesOf l).size 0 5)) 5 ((bytesRow (bytesOf l) (grownCap w (bytesOf l).size 0 5)).size, (bytesRow (bytesOf l) (grownCap w (bytesOf l).size 0 5)).size + 1))
    have hat := bytesRow_at (bytesOf l) (grownCap w (bytesOf l).size 0 5) j hj'
    have hlt := (Array.getElem?_eq_some_iff.1 hat).1
    have hsz : w.drew.heap.size = w.heap.size := rfl
    rw [hsz] at hblk
    constructor
    · unfold World.cell?
      rw [hblk]
      show (bytesRow _ _)[j]? = _
      rw [hat]; rfl
    · unfold World.frozen?
      rw [hblk]
      simp
      omega
  · exact ⟨rfl, rfl, rfl, by simp, fun k hk => Below.heap_alloc w.drew _ k hk⟩
theorem Buf.keep {w w' : World} {g b : Nat} {l : List UInt8} (h : Buf w g l) (k : Below b w w') (hb : g < b) : Buf w' g l := by
  refine ⟨Nat.lt_of_lt_of_le h.1 k.size, fun j hj => ?_⟩
  have e := k.block g hb
  obtain ⟨h1, h2⟩ := h.2 j hj
  exact ⟨by rw [World.cell?_of_block (w := w) (w' := w') e]; exact h1, by unfold World.frozen? at h2 ⊢; rw [e]; exact h2⟩
theorem Buf.set {w : World} {g v : Nat} {l : List UInt8} (h : Buf w g l) (_hv : v < l.length) (c : UInt8) : Buf (w.setCell ⟨g, v, none⟩ (.int .u8 (c.toNat : Int))).drew g (l.set v c) := by
  refine ⟨by simpa [World.setCell, World.drew, -World.drew_eq] using h.1, fun j hj => ?_⟩
  rw [List.length_set] at hj
  obtain ⟨h1, h2⟩ := h.2 j hj
  refine ⟨?_, (World.frozen?_setCell w _ _ _).trans h2⟩
  show (w.setCell ⟨g, v, none⟩ (.int .u8 (c.toNat : Int))).cell? ⟨g, j, none⟩ = _
  by_cases hjv : v = j
  · subst hjv
    rw [World.cell?_setCell_same' _ _ _ (by rw [h1]; rfl), List.getElem_set_self]; rfl
  · rw [World.cell?_setCell_other _ _ _ _ (by intro e; injection e with e1 e2; exact hjv e2), h1, List.getElem_set_ne hjv]
theorem Buf.string {w : World} {g k cap : Nat} {l : List UInt8} (h : Buf w g l) (hk : k = l.length) : (convert 22 9 (.slice (some ⟨g, 0, none⟩) k cap)).run Try.prog w = .ok (.string (bytesOf l)) w := by
  subst hk
  refine run_convert_bytes_back w 22 9 5 ⟨g, 0, none⟩ cap l Try.underlying22 Try.underlying5 Try.underlying9 fun j hj => ?_
  have e1 : (⟨g, 0, none⟩ : Addr).add j = ⟨g, j, none⟩ := by unfold Addr.add; split <;> simp_all
  rw [e1]; exact (h.2 j hj).1

/-- A text of which the first k bytes are redacted. -/
def redK (T : List UInt8) (l : List Int) (k : Nat) : List UInt8 := List.zipWith (fun c m => if m = 0 then c else 42) (T.take k) (l.take k) ++ T.drop k
def redL (T : List UInt8) (l : List Int) : List UInt8 := List.zipWith (fun c m => if m = 0 then c else 42) T l
theorem redK_zero (T : List UInt8) (l : List Int) : redK T l 0 = T := by simp [redK]
theorem redK_len (T : List UInt8) (l : List Int) (k : Nat) (h : T.length = l.length) : (redK T l k).length = T.length := by simp [redK, h]; omega
theorem redK_all (T : List UInt8) (l : List Int) (k : Nat) (h : T.length = l.length) (hk : l.length ≤ k) : redK T l k = redL T l := by
  unfold redK redL; rw [List.take_of_length_le (by omega), List.take_of_length_le hk, List.drop_eq_nil_of_le (by omega), List.append_nil]
theorem redK_succ (T : List UInt8) (l : List Int) (k : Nat) (h : T.length = l.length) (hk : k < l.length) (hk2 : k < T.length) : redK T l (k + 1) = (redK T l k).set k (if l[k] = 0 then T[k] else 42) := by
  unfold redK
  have e : (List.zipWith (fun c m => if m = 0 then c else 42) (T.take k) (l.take k) : List UInt8).length = k := by simp; omega
  have e3 : k - (List.zipWith (fun c m => if m = 0 then c else 42) (T.take k) (l.take k) : List UInt8).length = 0 := by omega
  rw [List.take_succ_eq_append_getElem hk, List.take_succ_eq_append_getElem hk2, List.zipWith_append (by simp; omega), List.set_append, if_neg (by omega), e3, List.drop_eq_getElem_cons hk2, List.set_cons_zero, List.append_assoc]
  rfl
theorem redK_at (T : List UInt8) (l : List Int) (k : Nat) (h : T.length = l.length) (hk2 : k < T.length) (hk3 : k < (redK T l k).length) : (redK T l k)[k] = T[k] := by
  unfold redK at hk3 ⊢
  have e : (List.zipWith (fun c m => if m = 0 then c else 42) (T.take k) (l.take k) : List UInt8).length = k := by simp; omega
  rw [List.getElem_append_right (by omega)]
  simp [e]
theorem redK_skip (T : List UInt8) (l : List Int) (k : Nat) (h : T.length = l.length) (hk : k < l.length) (h0 : l[k] = 0) : redK T l (k + 1) = redK T l k := by
  rw [redK_succ T l k h hk (by omega), if_pos h0]
  apply List.ext_getElem (by simp)
  intro i h1 h2
  rw [List.getElem_set]
  split
  · rename_i e; subst e; rw [redK_at T l k h (by omega)]
  · rfl
theorem redK_star (T : List UInt8) (l : List Int) (k : Nat) (h : T.length = l.length) (hk : k < l.length) (h0 : ¬ l[k] = 0) : redK T l (k + 1) = (redK T l k).set k 42 := by rw [redK_succ T l k h hk (by omega), if_neg h0]
theorem Buf.set' {w : World} {g v : Nat} {l : List UInt8} (h : Buf w g l) (hv : v < l.length) : Buf (w.setCell ⟨g, v, none⟩ (.int .u8 42)) g (l.set v 42) := h.set hv 42
/-- Redacted: of what is not right, nothing. -/
def redT (t : ByteArray) (l : List Int) : ByteArray := if labB t l = true then bytesOf (redL t.data.toList l) else ⟨#[]⟩
theorem redT_no {t : ByteArray} {l : List Int} (h : labB t l = false) : redT t l = ⟨#[]⟩ := by rw [redT, if_neg (by rw [h]; simp)]
theorem redT_ok {t : ByteArray} {l : List Int} (h : labB t l = true) : redT t l = bytesOf (redL t.data.toList l) := by rw [redT, if_pos h]
def TextIs (s : ByteArray) (w : World) (e : Ending) (w' : World) : Prop := e = .returned (.string s) ∧ Below w.heap.size w w'
theorem TextIs.of {s r : ByteArray} {w w' : World} (h : r = s) (k : Below w.heap.size w w') : TextIs s w (.returned (.string r)) w' := by subst h; exact ⟨rfl, k⟩
set_option maxHeartbeats 4000000 in
theorem implRedact_any (t : ByteArray) (v : Value) (l : List Int) (w : World) (ht : t.size ≤ 1048576) (hv : Ints w v l) :
    Calls Try.prog 17 #[.agg #[.string t, v]] w (TextIs (redT t l) w) := by
  obtain ⟨A1, cap1, rfl⟩ := hv.form
  have hv' := Lib.hid hv
  clear hv
  have hbb := Lib.hid (fun (o1 : Obj) => (Below.refl w.heap.size w).alloc (Nat.le_refl _) o1)
  by_cases h1 : labB t l = true
  · have e := Lib.hid (redT_ok h1)
    obtain ⟨hp2, hp1, hp3⟩ := labB_parts h1
    replace hp1 := Lib.hid hp1
    replace hp3 := Lib.hid hp3
    have hT := Lib.hid (show t.data.toList.length = l.length by rw [hp1.out]; simp)
    go_enter Try.func17, Try.ntmps17
    go_wp2_with (go_at_call 31; refine (implLabRight_any t _ l _ ht (hv'.out.alloc _)).mono ?_; rintro e1 w1 ⟨rfl, hb1⟩; have B1 : Blk w1 w.heap.size 25 [.string t, .slice A1 l.length cap1] := Blk.up (heap_alloc_new w (.cells #[.string t, .slice A1 l.length cap1] 25)) hb1; obtain ⟨x0, x1, xf0, xf1⟩ := B1.two; replace hb1 := Lib.hid hb1; replace B1 := Lib.hid B1; obtain ⟨capX, w2, hcv, hbuf, hb2⟩ := to_bytes w1 t.data.toList t.size (by simp); rw [bytesOf_data] at hcv; obtain ⟨z0, z1, zf0, zf1⟩ := (B1.out.up hb2).two; replace hbuf := Lib.hid hbuf; replace hb2 := Lib.hid hb2)
    have hwz1 : w.heap.size < w1.heap.size := B1.out.lt
    have hbw := Lib.hid (Below.then_ (Below.then_ (hbb.out _) hb1.out (Nat.le_refl _)) hb2.out (Nat.le_refl _))
    have hva := Lib.hid (((hv'.out.alloc _).below hb1.out).below hb2.out)
    have hbr := Lib.hid (Below.refl w1.heap.size w2)
    have hw12 := hb2.out.size
    have hbw' := Lib.hid (fun (k : Nat) (hk : k < l.length) (b off : Nat) (hA : A1 = some ⟨b, off, none⟩) => show b < w1.heap.size by
      obtain ⟨b', off', e, h2, _⟩ := ((hv'.out.alloc _).below hb1.out).at_ k hk
      rw [e] at hA; cases hA; exact h2)
    clear hcv x0 x1 xf0 xf1
    obtain ⟨G, hG⟩ : ∃ G, G = w1.heap.size := ⟨_, rfl⟩
    rw [← hG] at hbuf hbr hbw' hw12 hwz1 ⊢
    replace hG := Lib.hid hG
    go_loopw [15] (fun i wr => ∃ k : Nat, k ≤ l.length ∧ i = .int .i64 k ∧ Buf wr G (redK t.data.toList l k) ∧ Below G w2 wr) (fun i _ => l.length - (intOf i).toNat)
    case atStart => exact ⟨0, Nat.zero_le _, rfl, by rw [redK_zero]; exact hbuf.out, hbr.out⟩
    case round =>
      obtain ⟨k, hk, rfl, hr, hb⟩ := hrel
      have hwlt := hr.1
      by_cases hlt : k < l.length
      · have hltT : k < t.data.toList.length := by rw [hT.out]; exact hlt
        have hltt : k < t.size := by have := hp1.out; omega
        have hltS : (k : Int) < (t.size : Int) := by omega
        obtain ⟨b, off, rfl, hbk, hck⟩ := hva.out.at_ k hlt
        have hbG := hbw'.out k hlt b off rfl
        have hck2 : wr.cell? ⟨b, off + k, none⟩ = some (.int .i64 l[k]) := (World.cell?_of_block (hb.block b hbG)).trans hck
        have hlt' : (k : Int) < (l.length : Int) := by omega
        obtain ⟨hx1, hf1⟩ := hr.2 k (by rw [redK_len _ _ _ hT.out]; exact hltT)
        clear hck
        by_cases hm : l[k] = 0
        · have hm1 : (l[k] == 0) = true := by simp [hm]
          have hm2 : (l[k] != 0) = false := by simp [hm]
          have hn := Lib.hid (redK_skip _ _ k hT.out hlt hm)
          replace hr := Lib.hid hr
          replace hb := Lib.hid hb
          clear hm
          go_wp2
          go_roundw
          case rel => exact ⟨k + 1, by omega, by go_num, by rw [hn.out]; exact hr.out, hb.out⟩
          case measure => simp [intOf]; omega
        · have hm2 : (l[k] != 0) = true := by simp [hm]
          have hm1 : (l[k] == 0) = false := by simp [hm]
          have hn := hr.set' (v := k) (by rw [redK_len _ _ _ hT.out]; exact hltT)
          rw [← redK_star _ _ k hT.out hlt hm] at hn
          have hb2 := hb.setCell (p := ⟨G, k, none⟩) (Nat.le_refl _) (.int .u8 42)
          replace hn := Lib.hid hn
          replace hb2 := Lib.hid hb2
          clear hm hr hb
          go_wp2
          go_roundw
          case rel => exact ⟨k + 1, by omega, by go_num, hn.out, hb2.out⟩
          case measure => simp [intOf]; omega
      · have hlt' : ¬ (k : Int) < (l.length : Int) := by omega
        rw [redK_all _ _ k hT.out (by omega)] at hr
        have hconv := hr.string (k := t.size) (cap := capX) (by unfold redL; rw [List.length_zipWith, hT.out]; have := hp1.out; omega)
        replace hb := Lib.hid hb
        clear hr
        go_wp2
        go_ret
        exact TextIs.of e.out.symm (hbw.out.trans (hb.out.mono (by omega)))
  · have h1' : labB t l = false := by simpa using h1
    have e := Lib.hid (redT_no h1')
    clear h1
    go_enter Try.func17, Try.ntmps17
    go_wp2_with (go_at_call 31; refine (implLabRight_any t _ l _ ht (hv'.out.alloc _)).mono ?_; rintro e1 w1 ⟨rfl, hb1⟩; have B1 : Blk w1 w.heap.size 25 [.string t, .slice A1 l.length cap1] := Blk.up (heap_alloc_new w (.cells #[.string t, .slice A1 l.length cap1] 25)) hb1; obtain ⟨x0, x1, xf0, xf1⟩ := B1.two; replace hb1 := Lib.hid hb1; replace B1 := Lib.hid B1)
    go_ret
    exact TextIs.of e.out.symm (Below.then_ (hbb.out _) hb1.out (Nat.le_refl _))
end Go.Proofs.Ytlgedbgpekfobaa
