/- A drawn text is got back from its seal; with any one byte turned it is refused; a CRC goes on from text to text. No conditions. -/
import Derived.Test.YtgbfndfjcolpjaaRows
import Derived.WalkKit
import Derived.ProofKit
import Derived.OpenShut
import Derived.ShutString
import Derived.ChangeOld
import Derived.Below
import Derived.Test.YtgbfndfjcolpjaaDrawC
namespace Go.Proofs.Ytgbfndfjcolpjaa.fnSeal
open Go.ChangeShapes Go.WideShapes Go.ChangeAt Go.RowKit
open Go.ChangeMaps (open_string shut_string)
set_option linter.unusedVariables false
/-- A row of bytes that came in. -/
def IsRow (k : IntKind) (w : World) (a : Option Addr) (len cap : Nat) (zs : List Int) : Prop :=
  (a = none ∧ len = 0 ∧ cap = 0 ∧ zs = []) ∨
  ∃ x, a = some x ∧ len ≤ cap ∧ cap ≤ maxLen ∧ zs.length = cap ∧ (∀ i, i < zs.length → w.cell? (x.add i) = some (.int k (zs.getD i 0))) ∧ ∀ n ∈ zs, (Lit.int k n).wf = true
theorem IsRow.read {w : World} {a : Option Addr} {len cap : Nat} {zs : List Int} (h : IsRow .u8 w a len cap zs) (hl : len ≤ 1048576) : Readable w w.heap.size a len := by
  refine ⟨hl, fun h0 => ?_⟩
  rcases h with ⟨_, rfl, _⟩ | ⟨x, rfl, hlc, _, hz, hcell, hwf⟩
  · omega
  · obtain ⟨b, off, spot⟩ := x
    have hc := hcell 0 (by omega)
    have hspot : spot = none := by simpa [Addr.add] using World.cell?_spot hc
    subst hspot
    have hlt : b < w.heap.size := by
      rcases Nat.lt_or_ge b w.heap.size with h | h
      · exact h
      · simp [World.cell?, Addr.add, Array.getElem?_eq_none h] at hc
    refine ⟨b, off, rfl, hlt, fun i hi => ?_⟩
    have hi2 : i < zs.length := by omega
    have hc := hcell i hi2
    have hw := hwf (zs[i]) (List.getElem_mem hi2)
    have hw : 0 ≤ zs[i] ∧ zs[i] ≤ 255 := by simpa [Lit.wf, show IntKind.u8.min = 0 from by decide, show IntKind.u8.max = 255 from by decide] using hw
    refine ⟨zs[i].toNat, by omega, ?_⟩
    rw [Int.toNat_of_nonneg hw.1]
    have e1 : (⟨b, off, none⟩ : Addr).add i = ⟨b, off + i, none⟩ := by unfold Addr.add; split <;> simp_all
    rw [e1] at hc
    simpa [List.getD_eq_getElem?_getD, List.getElem?_eq_getElem hi2] using hc
theorem read_below {w w' : World} {A : Option Addr} {len : Nat} (h : Readable w w.heap.size A len) (hb : Below w.heap.size w w') : Readable w' w.heap.size A len := h.keep hb.block
theorem below_more {b : Nat} {w w1 w2 : World} (h : Below b w w1) (k : Below w1.heap.size w1 w2) (hb : b ≤ w.heap.size) : Below b w w2 := h.trans (k.mono (Nat.le_trans hb h.size))
/-- A row that holds the bytes l, from its first cell on; none is frozen. -/
def Buf (w : World) (g : Nat) (l : List UInt8) : Prop := g < w.heap.size ∧ ∀ j (hj : j < l.length), w.cell? ⟨g, j, none⟩ = some (byteV l[j]) ∧ w.frozen? ⟨g, j, none⟩ = false
theorem to_bytes (w : World) (l : List UInt8) (k : Nat) (hk : k = l.length) : ∃ (cap : Nat) (w' : World), (convert 9 22 (.string (bytesOf l))).run Try.prog w = .ok (.slice (some ⟨w.heap.size, 0, none⟩) k cap) w' ∧ Buf w' w.heap.size l ∧ Below w.heap.size w w' := by
  subst hk
  refine ⟨_, _, by rw [← bytesOf_size]; exact run_bytes_of_string w 9 22 5 (bytesOf l) Try.underlying9 Try.underlying22 Try.underlying5, ⟨by simp, fun j hj => ?_⟩, ?_⟩
  · have hj' : j < (bytesOf l).data.size := by show j < l.toArray.size; simpa using hj
    have hblk := heap_alloc_new w.drew (.cells (bytesRow (bytesOf l) (grownCap w (bytesOf l).size 0 5)) 5 ((bytesRow (bytesOf l) (grownCap w (bytesOf l).size 0 5)).size, (bytesRow (bytesOf l) (grownCap w (bytesOf l).size 0 5)).size + 1))
    have hat := bytesRow_at (bytesOf l) (grownCap w (bytesOf l).size 0 5) j hj'
    have hlt := (Array.getElem?_eq_some_iff.1 hat).1
    have hsz : w.drew.heap.size = w.heap.size := rfl
    rw [hsz] at hblk
    constructor
    · unfold World.cell?
      rw [hblk]
      show (bytesRow _ _)[j]? = _
      rw [hat]; rfl
    · unfold World.frozen?
      rw [hblk]
      simp
      omega
  · exact ⟨rfl, rfl, rfl, by simp, fun k hk => Below.heap_alloc w.drew _ k hk⟩
theorem Buf.keep {w w' : World} {g b : Nat} {l : List UInt8} (h : Buf w g l) (k : Below b w w') (hb : g < b) : Buf w' g l := by
  refine ⟨Nat.lt_of_lt_of_le h.1 k.size, fun j hj => ?_⟩
  have e := k.block g hb
  obtain ⟨h1, h2⟩ := h.2 j hj
  exact ⟨by rw [World.cell?_of_block (w := w) (w' := w') e]; exact h1, by unfold World.frozen? at h2 ⊢; rw [e]; exact h2⟩
theorem Buf.set {w : World} {g v : Nat} {l : List UInt8} (h : Buf w g l) (hv : v < l.length) (c : UInt8) : Buf (w.setCell ⟨g, v, none⟩ (.int .u8 (c.toNat : Int))).drew g (l.set v c) := by
  refine ⟨by simpa [World.setCell, World.drew, -World.drew_eq] using h.1, fun j hj => ?_⟩
  rw [List.length_set] at hj
  obtain ⟨h1, h2⟩ := h.2 j hj
  refine ⟨?_, (World.frozen?_setCell w _ _ _).trans h2⟩
  show (w.setCell ⟨g, v, none⟩ (.int .u8 (c.toNat : Int))).cell? ⟨g, j, none⟩ = _
  by_cases hjv : v = j
  · subst hjv
    rw [World.cell?_setCell_same' _ _ _ (by rw [h1]; rfl), List.getElem_set_self]; rfl
  · rw [World.cell?_setCell_other _ _ _ _ (by intro e; injection e with e1 e2; exact hjv e2), h1, List.getElem_set_ne hjv]
theorem Buf.string {w : World} {g k cap : Nat} {l : List UInt8} (h : Buf w g l) (hk : k = l.length) : (convert 22 9 (.slice (some ⟨g, 0, none⟩) k cap)).run Try.prog w = .ok (.string (bytesOf l)) w := by
  subst hk
  refine run_convert_bytes_back w 22 9 5 ⟨g, 0, none⟩ cap l Try.underlying22 Try.underlying5 Try.underlying9 fun j hj => ?_
  have e1 : (⟨g, 0, none⟩ : Addr).add j = ⟨g, j, none⟩ := by unfold Addr.add; split <;> simp_all
  rw [e1]; exact (h.2 j hj).1
theorem code_field (s : ByteArray) (a c : Int) (W : World) : (Instr.field 27 (.agg #[.string s, .int .i64 a, .int .i64 c]) 2).run Try.prog W = .ok (.int .i64 c) W := by kernel_rfl
theorem xor_byte {q d : Nat} (hq : q < 256) (h1 : 0 < d) (h2 : d < 256) : ∃ c : UInt8, bits BinOp.xor IntKind.u8 (q : Int) (d : Int) = (c.toNat : Int) ∧ c.toNat ≠ q := by
  have hlt : q ^^^ d < 256 := Nat.xor_lt_two_pow (n := 8) hq h2
  refine ⟨UInt8.ofNat (q ^^^ d), ?_, ?_⟩
  · rw [u8_xor_nat q d hq h2, ofNat_int _ hlt]
  · rw [UInt8.toNat_ofNat_of_lt' hlt]
    intro e
    have e2 : q ^^^ d = q ^^^ 0 := by rw [Nat.xor_zero]; exact e
    have := xor_cancel_left e2
    omega

set_option maxRecDepth 100000 in
set_option maxHeartbeats 4000000 in
theorem walk_big (a0 : Option Addr) (len0 cap0 : Nat) (a1 : Option Addr) (len1 cap1 : Nat) (w : World) (hb : ¬ (len0 ≤ 1048576 ∧ len1 ≤ 1048576)) :
    Calls Try.prog 3 #[.slice a0 len0 cap0, .slice a1 len1 cap1] w fun e w' => e = .returned (.bool true) ∧ Below w.heap.size w w' := by
  by_cases h0 : len0 ≤ 1048576
  · have h0' : (len0 : Int) ≤ 1048576 := by omega
    have h1' : ¬ (len1 : Int) ≤ 1048576 := by omega
    clear h0 hb
    go_enter Try.func3, Try.ntmps3
    go_wp2
    go_ret
    exact ⟨rfl, Below.refl _ _⟩
  · have h0' : ¬ (len0 : Int) ≤ 1048576 := by omega
    clear h0 hb
    go_enter Try.func3, Try.ntmps3
    go_wp2
    go_ret
    exact ⟨rfl, Below.refl _ _⟩
set_option maxRecDepth 100000 in
set_option maxHeartbeats 8000000 in
theorem walkIn (a0 : Option Addr) (len0 cap0 : Nat) (a1 : Option Addr) (len1 cap1 : Nat) (w : World) (r0 : Readable w w.heap.size a0 len0) (r1 : Readable w w.heap.size a1 len1) :
    Calls Try.prog 3 #[.slice a0 len0 cap0, .slice a1 len1 cap1] w fun e w' => e = .returned (.bool true) ∧ Below w.heap.size w w' := by
  have h0' : (len0 : Int) ≤ 1048576 := by have := r0.1; omega
  have h1' : (len1 : Int) ≤ 1048576 := by have := r1.1; omega
  replace r0 := Lib.hid r0
  replace r1 := Lib.hid r1
  go_enter Try.func3, Try.ntmps3
  go_wp2_with (go_at_call 11; refine (drawSeal_any _ _ _ w.heap.size _ (Nat.le_refl _) r0.out).mono ?_; rintro e x1 ⟨⟨t, ht, rfl⟩, hb⟩; replace hb := Lib.hid hb)
  have htl : t.size ≤ maxLen := by unfold maxLen; omega
  by_cases h7 : t.size ≤ 7996
  · have hln := seal_len h7
    obtain ⟨S, hS⟩ : ∃ S, S = sealOf t := ⟨_, rfl⟩
    have hSl : S.length = t.size + 4 := by rw [hS]; exact hln
    have hstr : strV S = .string (bytesOf S) := rfl
    have hsz : (bytesOf S).size = t.size + 4 := by rw [bytesOf_size]; exact hSl
    replace hS := Lib.hid hS
    replace hln := Lib.hid hln
    obtain ⟨K, hK⟩ : ∃ K : Nat, K = S.length := ⟨_, rfl⟩
    have hK1 : K ≤ 8000 := by omega
    have hne : (bytesOf S).toList.isEmpty = false := by
      rw [ByteArray.toList_eq, bytesOf_list]
      cases S with
      | nil => simp at hSl
      | cons => rfl
    replace hSl := Lib.hid hSl
    replace hK := Lib.hid hK
    replace hsz := Lib.hid hsz
    clear hstr
    go_wp2_with (first
      | (go_at_call 12; refine (implSeal_any _ htl _).mono ?_; rintro e x2 ⟨rfl, hb'⟩; replace hb := Lib.hid (below_more hb.out hb' (Nat.le_refl _)); clear hb'; rw [← hS.out, show strV S = .string (bytesOf S) from rfl])
      | (go_at_call 13; refine (specSeal_any _ htl _).mono ?_; rintro e x3 ⟨rfl, hb'⟩; replace hb := Lib.hid (below_more hb.out hb' (Nat.le_refl _)); clear hb'; rw [← hS.out, show strV S = .string (bytesOf S) from rfl]; obtain ⟨cap, x4, hconv, hbuf, hb'⟩ := to_bytes x3 S K hK.out; have hx3 := hb.out.size; have hr2 := Lib.hid (read_below r1.out (below_more hb.out hb' (Nat.le_refl _))); replace hb := Lib.hid (below_more hb.out hb' (Nat.le_refl _)); clear hb'; replace hbuf := Lib.hid hbuf)
      | (go_at_call 14; refine (lwAt_any a1 len1 cap1 w.heap.size 0 (K : Int) (by omega) (by omega) _ hr2.out).mono ?_; rintro e x5 ⟨⟨v, hv, rfl⟩, rfl⟩; have hv2 : v < K := (by have := hSl.out; have := hK.out; omega)))
    have hvS : v < S.length := by have := hK.out; omega
    obtain ⟨hcv0, hfv⟩ := hbuf.out.2 v hvS
    obtain ⟨q, hq⟩ : ∃ q : Nat, q = S[v].toNat := ⟨_, rfl⟩
    have hcv : x4.cell? ⟨x3.heap.size, v, none⟩ = some (.int .u8 (q : Int)) := by rw [hq]; exact hcv0
    have hq2 : q < 256 := by rw [hq]; exact S[v].toNat_lt
    clear hcv0
    replace hq := Lib.hid hq
    replace hvS := Lib.hid hvS
    have hv3 : (v : Int) < (K : Int) := by omega
    have hv4 : (0 : Int) ≤ (v : Int) := by omega
    clear hv hv2
    go_region_with (go_at_call 14; refine (lwAt_any a1 len1 cap1 w.heap.size 1 255 (by omega) (by omega) _ ?_).mono ?_; exact hr2.out; rintro e x6 ⟨⟨d, hd, rfl⟩, rfl⟩; have hd2 : (d : Int) < 255 := (by omega); clear hd; have hd3 : IntKind.i64.wrap (1 + (d : Int)) = 1 + (d : Int) := IntWalk.i64_in _ (by omega))
    all_goals
      have hw8 : IntKind.u8.wrap (1 + (d : Int)) = ((d + 1 : Nat) : Int) := by rw [IntKind.wrap_u8]; omega
      obtain ⟨c, hc, hcq⟩ := xor_byte hq2 (d := d + 1) (by omega) (by omega)
      rw [hw8, hc]
      obtain ⟨W5, hW5⟩ : ∃ W, W = (x4.setCell ⟨x3.heap.size, v, none⟩ (.int .u8 (c.toNat : Int))).drew := ⟨_, rfl⟩
      have hbuf5 := hbuf.out.set hvS.out c
      have hb5 := below_drew (hb.out.setCell (p := ⟨x3.heap.size, v, none⟩) hx3 (.int .u8 (c.toNat : Int)))
      rw [← hW5] at hbuf5 hb5 ⊢
      have hg5 := hbuf5.1
      have hbuf5 := Lib.hid hbuf5
      replace hb := Lib.hid hb5
      have hcS : c ≠ S[v]'hvS.out := by intro e; apply hcq; rw [e, hq.out]
      have hun := Lib.hid (show unsealV (bytesOf S) = .agg #[.string t, .int .i64 0, .int .i64 0] from by rw [hS.out, unseal_seal h7]; unfold textOutV; rw [strV_data])
      have hut := Lib.hid (show unsealV (bytesOf (S.set v c)) = .agg #[.string ⟨#[]⟩, .int .i64 0, .int .i64 5] from by
        have hS2 := hS.out
        subst hS2
        rw [unseal_turned h7 v c hvS.out hcS]; rfl)
      have hm1 : (bytesOf S).size ≤ maxLen := by rw [hsz.out]; unfold maxLen; omega
      have hm2 : (bytesOf (S.set v c)).size ≤ maxLen := by rw [bytesOf_size, List.length_set, hSl.out]; unfold maxLen; omega
      have hbe := Lib.hid (And.intro hbuf5 hb)
      clear hbuf hb5 hW5 hw8 hc hcq hd2 hd3 hcS hcv hfv hconv hr2
      have hcf := code_field ⟨#[]⟩ 0 5
      have hr3 := r1.out
      replace hr3 := Lib.hid hr3
      go_wp2_with (first
        | (go_at_call_of 15 (Value.string (bytesOf S)); refine (implUnseal_any (bytesOf S) hm1 _).mono ?_; rintro e x7 ⟨rfl, hb'⟩; have hbuf6 := Lib.hid (hbuf5.out.keep hb' hg5); have hconv := fun cap => hbuf6.out.string (cap := cap) (k := K) (by rw [List.length_set]; exact hK.out); replace hb := Lib.hid (below_more hb.out hb' (Nat.le_refl _)); clear hb'; rw [hun.out])
        | (go_at_call_of 15 (Value.string (bytesOf (S.set v c))); refine (implUnseal_any (bytesOf (S.set v c)) hm2 _).mono ?_; rintro e x8 ⟨rfl, hb'⟩; replace hb := Lib.hid (below_more hb.out hb' (Nat.le_refl _)); clear hb'; rw [hut.out])
        | (go_at_call 16; refine (drawCrcMore_any a1 len1 cap1 w.heap.size _ hb.out.size (read_below r1.out hb.out)).mono ?_; rintro e x9 ⟨⟨cr, u, hcr, hu, rfl⟩, hb'⟩; replace hb := Lib.hid (below_more hb.out hb' (Nat.le_refl _)); clear hb'; replace hcr := Lib.hid hcr; have hum : u.size ≤ maxLen := (by unfold maxLen; omega); have htu : (t ++ u).size ≤ maxLen := (by rw [ByteArray.size_append]; unfold maxLen; omega))
        | (go_at_call 17; refine (implCrcMore_any _ _ hum _).mono ?_; rintro e _ ⟨rfl, rfl⟩)
        | (go_at_call 18; refine (specCrcMore_any _ _ hum _).mono ?_; rintro e _ ⟨rfl, rfl⟩)
        | (go_at_call_of 19 (Value.string t); refine (implCrc_any t htl _).mono ?_; rintro e _ ⟨rfl, rfl⟩)
        | (go_at_call 19; refine (implCrc_any (t ++ u) htu _).mono ?_; rintro e _ ⟨rfl, rfl⟩; rw [← crcMore_cat (by omega)]))
    all_goals
      go_ret
      exact ⟨rfl, hb.out⟩
  · have hS : sealOf t = [] := sealOf_long t (by omega)
    have hS := Lib.hid hS
    go_wp2_with (first
        | (go_at_call 12; refine (implSeal_any _ htl _).mono ?_; rintro e x2 ⟨rfl, hb'⟩; replace hb := Lib.hid (below_more hb.out hb' (Nat.le_refl _)); clear hb'; rw [hS.out, strV_nil])
        | (go_at_call 13; refine (specSeal_any _ htl _).mono ?_; rintro e x3 ⟨rfl, hb'⟩; replace hb := Lib.hid (below_more hb.out hb' (Nat.le_refl _)); clear hb'; rw [hS.out, strV_nil])
        | (go_at_call 16; refine (drawCrcMore_any a1 len1 cap1 w.heap.size _ hb.out.size (read_below r1.out hb.out)).mono ?_; rintro e x9 ⟨⟨cr, u, hcr, hu, rfl⟩, hb'⟩; replace hb := Lib.hid (below_more hb.out hb' (Nat.le_refl _)); clear hb'; replace hcr := Lib.hid hcr; have hum : u.size ≤ maxLen := (by unfold maxLen; omega); have htu : (t ++ u).size ≤ maxLen := (by rw [ByteArray.size_append]; unfold maxLen; omega))
        | (go_at_call 17; refine (implCrcMore_any _ _ hum _).mono ?_; rintro e _ ⟨rfl, rfl⟩)
        | (go_at_call 18; refine (specCrcMore_any _ _ hum _).mono ?_; rintro e _ ⟨rfl, rfl⟩)
        | (go_at_call_of 19 (Value.string t); refine (implCrc_any t htl _).mono ?_; rintro e _ ⟨rfl, rfl⟩)
        | (go_at_call 19; refine (implCrc_any (t ++ u) htu _).mono ?_; rintro e _ ⟨rfl, rfl⟩; rw [← crcMore_cat (by omega)]))
    all_goals
      go_ret
      exact ⟨rfl, hb.out⟩
theorem walk (a0 : Option Addr) (len0 cap0 : Nat) (z0 : List Int) {w : World} (w0 : IsRow .u8 w a0 len0 cap0 z0) (a1 : Option Addr) (len1 cap1 : Nat) (z1 : List Int) (w1 : IsRow .u8 w a1 len1 cap1 z1) (w' : World) (hw : w' = w := by rfl) :
    Calls Try.prog 3 #[.slice a0 len0 cap0, .slice a1 len1 cap1] w' fun e x => e = .returned (.bool true) ∧ Below w'.heap.size w' x := by
  subst hw
  by_cases hb : len0 ≤ 1048576 ∧ len1 ≤ 1048576
  · exact walkIn a0 len0 cap0 a1 len1 cap1 w' (w0.read hb.1) (w1.read hb.2)
  · exact walk_big a0 len0 cap0 a1 len1 cap1 w' hb

theorem own : ownKnob Try.prog.godebug = none := by kernel_rfl
theorem laidOut : laidOutB Try.prog = true := by kernel_rfl
set_option maxRecDepth 100000 in
theorem lifted (os : Os) (started : os.Started) (H : Type) (enc : TypeId × Value → H) :
    ReturnsInHanded {} Try.checked os 3 .any (Rows.fnSealSpec.pre6 enc Try.prog Try.f3 Rows.fnSealRow.domain false) (Rows.fnSealSpec.post enc Try.prog Try.f3 false true false false) := by
  refine returnsInHanded_of_change (C := Try.checked) own started (by kernel_rfl) Try.func3
    (ChangeSpec.witness6 (enc := enc) (C := Try.checked) false ⟨#[], #[.slice none 0 0, .slice none 0 0], []⟩ 8 (by kernel_rfl) (by kernel_rfl) (by kernel_rfl) (by kernel_rfl)) ?_
  intro W base args ds gs before hval0 hW hcnd _
  have hval : ∀ (j : Nat) t v, Try.f3.params[j]? = some t → args[j]? = some v → Value.okWide Try.prog W .any base t v := hval0
  have hW' := hW
  obtain ⟨p, q, hA0, hV, rfl, hfz, hnd⟩ := hW
  have hA : DataW.TrodAll enc Try.prog W 0 (fun _ => true) true Try.f3.params.toList args.toList ds p := hA0
  rw [Try.params3] at hA hval
  obtain ⟨v0, vs0, d0, ds0, p0, q0, hargs, rfl, rfl, h0, r0⟩ := trodAll_cons hA
  obtain ⟨v1, vs1, d1, ds1, p1, q1, rfl, rfl, rfl, h1, r1⟩ := trodAll_cons r0
  obtain ⟨rfl, rfl, rfl⟩ := trodAll_nil r1
  obtain rfl : args = #[v0, v1] := by cases args; simp_all
  obtain ⟨rfl, rfl⟩ := trodVars_none hV
  obtain ⟨a0, len0, cap0, rfl⟩ := okWide_slice Try.underlying22 (hval 0 22 v0 rfl rfl)
  have k0 := h0
  have lt0 : ∀ x ∈ p0, x.block < W.heap.size := by obtain ⟨m, hm⟩ := k0; exact DataW.trod_lt m _ _ _ hm
  obtain ⟨z0, w0⟩ : ∃ zs, IsRow .u8 W a0 len0 cap0 zs := by
    obtain ⟨fuel, hf⟩ := h0
    rcases open_ints Try.underlying22 Try.underlying5 (by kernel_rfl) hf with ⟨hcs, _⟩ | ⟨x, l, c, zs, hcs, _, hl, hm, hz, _, hcell, hwz⟩
    · simp [Value.cells] at hcs
      obtain ⟨rfl, rfl, rfl⟩ := hcs
      exact ⟨[], .inl ⟨rfl, rfl, rfl, rfl⟩⟩
    · simp [Value.cells] at hcs
      obtain ⟨rfl, rfl, rfl⟩ := hcs
      exact ⟨zs, .inr ⟨_, rfl, hl, hm, by simpa using hz, hcell, hwz⟩⟩
  obtain ⟨a1, len1, cap1, rfl⟩ := okWide_slice Try.underlying22 (hval 1 22 v1 rfl rfl)
  have k1 := h1
  have lt1 : ∀ x ∈ p1, x.block < W.heap.size := by obtain ⟨m, hm⟩ := k1; exact DataW.trod_lt m _ _ _ hm
  obtain ⟨z1, w1⟩ : ∃ zs, IsRow .u8 W a1 len1 cap1 zs := by
    obtain ⟨fuel, hf⟩ := h1
    rcases open_ints Try.underlying22 Try.underlying5 (by kernel_rfl) hf with ⟨hcs, _⟩ | ⟨x, l, c, zs, hcs, _, hl, hm, hz, _, hcell, hwz⟩
    · simp [Value.cells] at hcs
      obtain ⟨rfl, rfl, rfl⟩ := hcs
      exact ⟨[], .inl ⟨rfl, rfl, rfl, rfl⟩⟩
    · simp [Value.cells] at hcs
      obtain ⟨rfl, rfl, rfl⟩ := hcs
      exact ⟨zs, .inr ⟨_, rfl, hl, hm, by simpa using hz, hcell, hwz⟩⟩
  clear hA0 hval0
  refine (walk a0 len0 cap0 z0 w0 a1 len1 cap1 z1 w1 W).mono fun e W' ⟨he, bel⟩ => ?_
  subst he
  exact ⟨_, rfl, _, _, _, [], _, [], hW', trodAll_mk1 (shut_bool Try.underlying4 _), (trodAll_cons_mk (Below.trod laidOut (by kernel_rfl) (of_decide_eq_true (by kernel_rfl)) k0 bel lt0) (trodAll_cons_mk (Below.trod laidOut (by kernel_rfl) (of_decide_eq_true (by kernel_rfl)) k1 bel lt1) trodAll_mk0)), rfl, bel.frame _, fun h => by cases h⟩

theorem over : Rows.fnSealRow.holds Try.pinned (OpenSpec.ofChange Rows.fnSealSpec) :=
  OpenClaim.holds_of_wide 3 Try.f3 rfl rfl rfl rfl rfl rfl rfl ⟨rfl, rfl, rfl, rfl, rfl⟩ rfl rfl rfl rfl rfl (by kernel_rfl) Try.func3 (by kernel_rfl)
    (of_decide_eq_true (by kernel_rfl)) (by unfold Func.isWrapper; first | (rw [if_pos (by decide +kernel)]; kernel_rfl) | (rw [if_neg (by decide +kernel)]; exact ⟨rfl, rfl⟩))
    (fun os started H enc _ => lifted os started H enc)

theorem proved : Rows.FnSealSaid := over
#print axioms proved

end Go.Proofs.Ytgbfndfjcolpjaa.fnSeal
