/- The walk of FnLab. -/
import Derived.Test.YtlgedbgpekfobaaDrawP
import Derived.Test.YtlgedbgpekfobaaLabW
import Derived.Test.YtlgedbgpekfobaaKnown
namespace Go.Proofs.Ytlgedbgpekfobaa
open Go.RowKit

attribute [local go_sem] vupon_value vupon_skip vupon_enter
theorem read_below {w w' : World} {A : Option Addr} {len : Nat} (h : Readable w w.heap.size A len) (hb : Below w.heap.size w w') : Readable w' w.heap.size A len := h.keep hb.block
theorem implJoin_as {P : Program} {f : Nat} {args : Array Value} {w : World} {b : Nat} {R R' : LabR} (h : R' = R) (k : Calls P f args w (LabOutEnd b R w)) : Calls P f args w (LabOutEnd b R' w) := by rw [h]; exact k
theorem TextIs.as {P : Program} {f : Nat} {args : Array Value} {w : World} {r r' : ByteArray} (h : r' = r) (k : Calls P f args w (TextIs r w)) : Calls P f args w (TextIs r' w) := by rw [h]; exact k
theorem IntIs.as {P : Program} {f : Nat} {args : Array Value} {w : World} {r r' : Int} (h : r' = r) (k : Calls P f args w (IntIs r w)) : Calls P f args w (IntIs r' w) := by rw [h]; exact k
theorem LookEnd.as {P : Program} {f : Nat} {args : Array Value} {w : World} {r r' : Bool} (h : r' = r) (k : Calls P f args w (LookEnd r w)) : Calls P f args w (LookEnd r' w) := by rw [h]; exact k
theorem joinR_size (t s : ByteArray) (l m : List Int) : (joinR t s l m).t.size ≤ 200 := by
  unfold joinR
  split
  · split
    · exact Nat.zero_le _
    · rename_i h
      show (bytesOf (t.data.toList ++ s.data.toList)).size ≤ 200
      rw [bytesOf_size, List.length_append]
      have e1 : t.data.toList.length = t.size := by simp
      have e2 : s.data.toList.length = s.size := by simp
      omega
  · exact Nat.zero_le _
theorem cutR_size (t : ByteArray) (l : List Int) (a b : Int) : (cutR t l a b).t.size ≤ t.size := by
  unfold cutR
  split
  · split
    · show (bytesOf _).size ≤ _
      rw [bytesOf_size, List.length_take, List.length_drop]
      have e1 : t.data.toList.length = t.size := by simp
      omega
    · exact Nat.zero_le _
  · exact Nat.zero_le _
theorem labOfR_size2 (t : ByteArray) (m : Int) : (labOfR t m).t.size ≤ t.size := by
  unfold labOfR
  split
  · exact Nat.zero_le _
  · split
    · exact Nat.zero_le _
    · exact Nat.le_refl _
set_option maxRecDepth 100000 in
set_option maxHeartbeats 16000000 in
theorem fnLab_in (a0 : Option Addr) (len0 cap0 : Nat) (a1 : Option Addr) (len1 cap1 : Nat) (w : World) (r0 : Readable w w.heap.size a0 len0) (r1 : Readable w w.heap.size a1 len1) :
    Calls Try.prog 3 #[.slice a0 len0 cap0, .slice a1 len1 cap1] w fun e w' => e = .returned (.bool true) ∧ Below w.heap.size w w' := by
  have h0' : (len0 : Int) ≤ 1048576 := by have := r0.1; omega
  have h1' : (len1 : Int) ≤ 1048576 := by have := r1.1; omega
  replace r0 := Lib.hid r0
  replace r1 := Lib.hid r1
  have hW := Lib.hid (Below.refl w.heap.size w)
  go_enter Try.func3, Try.ntmps3
  go_wp2_with (go_at_call 12; refine (drawLabJoin_any _ _ _ w.heap.size _ hW.out.size (read_below r0.out hW.out)).mono ?_; rintro e1 w1 ⟨⟨va, vb, rfl, ⟨t, A1, k1, l, rfl, ht, hl, ia⟩, ⟨s, A2, k2, m, rfl, hs, hm, ib⟩⟩, hb1⟩; replace hW := Lib.hid (Below.then_ hW.out hb1 (Nat.le_refl _)); have z1 := Lib.hid (show w.heap.size ≤ w1.heap.size from Nat.le_trans (Nat.le_refl _) hb1.size); replace ia := Lib.hid ia; replace ib := Lib.hid ib; replace hb1 := Lib.hid hb1)
  obtain ⟨⟨jc, jt, jl⟩, hR⟩ : ∃ R, R = joinR t s l m := ⟨_, rfl⟩
  have rj := Lib.hid (show jc = 0 → labB jt jl = true from by have := joinR_right t s l m; rw [← hR] at this; exact this)
  have hj0 := Lib.hid (show jt.size ≤ 200 from by rw [show jt = (joinR t s l m).t by rw [← hR]]; exact joinR_size t s l m)
  have hj1 := hj0.out
  replace hW := Lib.hid (hW.out.alloc hW.out.size (.cells #[.string t, .slice A1 l.length k1] 25))
  replace ia := Lib.hid (ia.out.alloc (.cells #[.string t, .slice A1 l.length k1] 25))
  replace ib := Lib.hid (ib.out.alloc (.cells #[.string t, .slice A1 l.length k1] 25))
  have b5 := Lib.hid (show Blk (w1.alloc (.cells #[.string t, .slice A1 l.length k1] 25)) w1.heap.size 25 [.string t, .slice A1 l.length k1] from heap_alloc_new w1 (.cells #[.string t, .slice A1 l.length k1] 25))
  obtain ⟨b50, b51, -, -⟩ := b5.out.two; have b5l := b5.out.lt
  replace hW := Lib.hid (hW.out.alloc hW.out.size (.cells #[.string s, .slice A2 m.length k2] 25))
  replace b5 := Lib.hid (b5.out.alloc (.cells #[.string s, .slice A2 m.length k2] 25))
  replace ia := Lib.hid (ia.out.alloc (.cells #[.string s, .slice A2 m.length k2] 25))
  replace ib := Lib.hid (ib.out.alloc (.cells #[.string s, .slice A2 m.length k2] 25))
  have b6 := Lib.hid (show Blk ((w1.alloc (.cells #[.string t, .slice A1 l.length k1] 25)).alloc (.cells #[.string s, .slice A2 m.length k2] 25)) (w1.alloc (.cells #[.string t, .slice A1 l.length k1] 25)).heap.size 25 [.string s, .slice A2 m.length k2] from heap_alloc_new (w1.alloc (.cells #[.string t, .slice A1 l.length k1] 25)) (.cells #[.string s, .slice A2 m.length k2] 25))
  clear b50 b51 b5l
  obtain ⟨b50, b51, -, -⟩ := b5.out.two; have b5l := b5.out.lt
  obtain ⟨b60, b61, -, -⟩ := b6.out.two; have b6l := b6.out.lt
  go_wp2_with (go_at_call 13; refine (implJoin_as hR (implLabJoin_any t s _ _ l m _ (by omega) (by omega) ia.out ib.out)).mono ?_; rintro e2 w2 ⟨A3, k3, rfl, hoij, hb2⟩; replace hW := Lib.hid (Below.then_ hW.out hb2 (Nat.le_refl _)); replace b5 := Lib.hid (b5.out.up hb2); replace b6 := Lib.hid (b6.out.up hb2); replace ia := Lib.hid (ia.out.below hb2); replace ib := Lib.hid (ib.out.below hb2); clear b50 b51 b5l; obtain ⟨b50, b51, -, -⟩ := b5.out.two; have b5l := b5.out.lt; clear b60 b61 b6l; obtain ⟨b60, b61, -, -⟩ := b6.out.two; have b6l := b6.out.lt; have z2 := Lib.hid (show (w1.alloc (.cells #[.string t, .slice A1 l.length k1] 25)).heap.size + 1 ≤ w2.heap.size from Nat.le_trans (by simp) hb2.size); have ij := Lib.hid hoij.ints; clear hoij; replace hb2 := Lib.hid hb2)
  replace hW := Lib.hid (hW.out.alloc hW.out.size (.cells #[.string jt, .slice A3 jl.length k3, .int .i64 jc] 29))
  replace b5 := Lib.hid (b5.out.alloc (.cells #[.string jt, .slice A3 jl.length k3, .int .i64 jc] 29))
  replace b6 := Lib.hid (b6.out.alloc (.cells #[.string jt, .slice A3 jl.length k3, .int .i64 jc] 29))
  replace ia := Lib.hid (ia.out.alloc (.cells #[.string jt, .slice A3 jl.length k3, .int .i64 jc] 29))
  replace ib := Lib.hid (ib.out.alloc (.cells #[.string jt, .slice A3 jl.length k3, .int .i64 jc] 29))
  replace ij := Lib.hid (ij.out.alloc (.cells #[.string jt, .slice A3 jl.length k3, .int .i64 jc] 29))
  have b7 := Lib.hid (show Blk (w2.alloc (.cells #[.string jt, .slice A3 jl.length k3, .int .i64 jc] 29)) w2.heap.size 29 [.string jt, .slice A3 jl.length k3, .int .i64 jc] from heap_alloc_new w2 (.cells #[.string jt, .slice A3 jl.length k3, .int .i64 jc] 29))
  clear b50 b51 b5l
  obtain ⟨b50, b51, -, -⟩ := b5.out.two; have b5l := b5.out.lt
  clear b60 b61 b6l
  obtain ⟨b60, b61, -, -⟩ := b6.out.two; have b6l := b6.out.lt
  obtain ⟨b70, b71, b72, -, -, -⟩ := b7.out.three; have b7l := b7.out.lt
  go_wp2_with (go_at_call 14; refine (drawLabCut_any _ _ _ w.heap.size _ hW.out.size (read_below r1.out hW.out)).mono ?_; rintro e3 w3 ⟨⟨vc, vx, vy, rfl, ⟨u, A4, k4, p, rfl, hu, hp, ic⟩, ⟨x0, rfl, hx0⟩, ⟨y0, rfl, hy0⟩⟩, hb3⟩; replace hW := Lib.hid (Below.then_ hW.out hb3 (Nat.le_refl _)); replace b5 := Lib.hid (b5.out.up hb3); replace b6 := Lib.hid (b6.out.up hb3); replace b7 := Lib.hid (b7.out.up hb3); replace ia := Lib.hid (ia.out.below hb3); replace ib := Lib.hid (ib.out.below hb3); replace ij := Lib.hid (ij.out.below hb3); clear b50 b51 b5l; obtain ⟨b50, b51, -, -⟩ := b5.out.two; have b5l := b5.out.lt; clear b60 b61 b6l; obtain ⟨b60, b61, -, -⟩ := b6.out.two; have b6l := b6.out.lt; clear b70 b71 b72 b7l; obtain ⟨b70, b71, b72, -, -, -⟩ := b7.out.three; have b7l := b7.out.lt; have z3 := Lib.hid (show w2.heap.size + 1 ≤ w3.heap.size from Nat.le_trans (by simp) hb3.size); replace ic := Lib.hid ic; replace hb3 := Lib.hid hb3)
  obtain ⟨⟨cc, ct, cl⟩, hC⟩ : ∃ R, R = cutR u p x0 y0 := ⟨_, rfl⟩
  have rc := Lib.hid (show cc = 0 → labB ct cl = true from by have := cutR_right u p x0 y0; rw [← hC] at this; exact this)
  have hc1 : ct.size ≤ 201 := by have := cutR_size u p x0 y0; rw [← hC] at this; exact Nat.le_trans this hu
  replace hW := Lib.hid (hW.out.alloc hW.out.size (.cells #[.string u, .slice A4 p.length k4] 25))
  replace b5 := Lib.hid (b5.out.alloc (.cells #[.string u, .slice A4 p.length k4] 25))
  replace b6 := Lib.hid (b6.out.alloc (.cells #[.string u, .slice A4 p.length k4] 25))
  replace b7 := Lib.hid (b7.out.alloc (.cells #[.string u, .slice A4 p.length k4] 25))
  replace ia := Lib.hid (ia.out.alloc (.cells #[.string u, .slice A4 p.length k4] 25))
  replace ib := Lib.hid (ib.out.alloc (.cells #[.string u, .slice A4 p.length k4] 25))
  replace ij := Lib.hid (ij.out.alloc (.cells #[.string u, .slice A4 p.length k4] 25))
  replace ic := Lib.hid (ic.out.alloc (.cells #[.string u, .slice A4 p.length k4] 25))
  have b8 := Lib.hid (show Blk (w3.alloc (.cells #[.string u, .slice A4 p.length k4] 25)) w3.heap.size 25 [.string u, .slice A4 p.length k4] from heap_alloc_new w3 (.cells #[.string u, .slice A4 p.length k4] 25))
  clear b50 b51 b5l
  obtain ⟨b50, b51, -, -⟩ := b5.out.two; have b5l := b5.out.lt
  clear b60 b61 b6l
  obtain ⟨b60, b61, -, -⟩ := b6.out.two; have b6l := b6.out.lt
  clear b70 b71 b72 b7l
  obtain ⟨b70, b71, b72, -, -, -⟩ := b7.out.three; have b7l := b7.out.lt
  obtain ⟨b80, b81, -, -⟩ := b8.out.two; have b8l := b8.out.lt
  go_wp2_with (go_at_call 15; refine (drawSameBut_any _ _ _ w.heap.size _ hW.out.size (read_below r1.out hW.out)).mono ?_; rintro e4 w4 ⟨⟨va, vb, mk, rfl, ⟨x, A5, k5, xl, rfl, hx, hxl, ix⟩, ⟨y9, A6, k6, yl, rfl, hy, hyl, iy⟩⟩, hb4⟩; replace hW := Lib.hid (Below.then_ hW.out hb4 (Nat.le_refl _)); replace b5 := Lib.hid (b5.out.up hb4); replace b6 := Lib.hid (b6.out.up hb4); replace b7 := Lib.hid (b7.out.up hb4); replace b8 := Lib.hid (b8.out.up hb4); replace ia := Lib.hid (ia.out.below hb4); replace ib := Lib.hid (ib.out.below hb4); replace ij := Lib.hid (ij.out.below hb4); replace ic := Lib.hid (ic.out.below hb4); clear b50 b51 b5l; obtain ⟨b50, b51, -, -⟩ := b5.out.two; have b5l := b5.out.lt; clear b60 b61 b6l; obtain ⟨b60, b61, -, -⟩ := b6.out.two; have b6l := b6.out.lt; clear b70 b71 b72 b7l; obtain ⟨b70, b71, b72, -, -, -⟩ := b7.out.three; have b7l := b7.out.lt; clear b80 b81 b8l; obtain ⟨b80, b81, -, -⟩ := b8.out.two; have b8l := b8.out.lt; have z4 := Lib.hid (show w3.heap.size + 1 ≤ w4.heap.size from Nat.le_trans (by simp) hb4.size); replace ix := Lib.hid ix; replace iy := Lib.hid iy; replace hb4 := Lib.hid hb4)
  replace hW := Lib.hid (hW.out.alloc hW.out.size (.cells #[.string x, .slice A5 xl.length k5] 25))
  replace b5 := Lib.hid (b5.out.alloc (.cells #[.string x, .slice A5 xl.length k5] 25))
  replace b6 := Lib.hid (b6.out.alloc (.cells #[.string x, .slice A5 xl.length k5] 25))
  replace b7 := Lib.hid (b7.out.alloc (.cells #[.string x, .slice A5 xl.length k5] 25))
  replace b8 := Lib.hid (b8.out.alloc (.cells #[.string x, .slice A5 xl.length k5] 25))
  replace ia := Lib.hid (ia.out.alloc (.cells #[.string x, .slice A5 xl.length k5] 25))
  replace ib := Lib.hid (ib.out.alloc (.cells #[.string x, .slice A5 xl.length k5] 25))
  replace ij := Lib.hid (ij.out.alloc (.cells #[.string x, .slice A5 xl.length k5] 25))
  replace ic := Lib.hid (ic.out.alloc (.cells #[.string x, .slice A5 xl.length k5] 25))
  replace ix := Lib.hid (ix.out.alloc (.cells #[.string x, .slice A5 xl.length k5] 25))
  replace iy := Lib.hid (iy.out.alloc (.cells #[.string x, .slice A5 xl.length k5] 25))
  have b11 := Lib.hid (show Blk (w4.alloc (.cells #[.string x, .slice A5 xl.length k5] 25)) w4.heap.size 25 [.string x, .slice A5 xl.length k5] from heap_alloc_new w4 (.cells #[.string x, .slice A5 xl.length k5] 25))
  clear b50 b51 b5l
  obtain ⟨b50, b51, -, -⟩ := b5.out.two; have b5l := b5.out.lt
  clear b60 b61 b6l
  obtain ⟨b60, b61, -, -⟩ := b6.out.two; have b6l := b6.out.lt
  clear b70 b71 b72 b7l
  obtain ⟨b70, b71, b72, -, -, -⟩ := b7.out.three; have b7l := b7.out.lt
  clear b80 b81 b8l
  obtain ⟨b80, b81, -, -⟩ := b8.out.two; have b8l := b8.out.lt
  obtain ⟨b110, b111, -, -⟩ := b11.out.two; have b11l := b11.out.lt
  replace hW := Lib.hid (hW.out.alloc hW.out.size (.cells #[.string y9, .slice A6 yl.length k6] 25))
  replace b5 := Lib.hid (b5.out.alloc (.cells #[.string y9, .slice A6 yl.length k6] 25))
  replace b6 := Lib.hid (b6.out.alloc (.cells #[.string y9, .slice A6 yl.length k6] 25))
  replace b7 := Lib.hid (b7.out.alloc (.cells #[.string y9, .slice A6 yl.length k6] 25))
  replace b8 := Lib.hid (b8.out.alloc (.cells #[.string y9, .slice A6 yl.length k6] 25))
  replace b11 := Lib.hid (b11.out.alloc (.cells #[.string y9, .slice A6 yl.length k6] 25))
  replace ia := Lib.hid (ia.out.alloc (.cells #[.string y9, .slice A6 yl.length k6] 25))
  replace ib := Lib.hid (ib.out.alloc (.cells #[.string y9, .slice A6 yl.length k6] 25))
  replace ij := Lib.hid (ij.out.alloc (.cells #[.string y9, .slice A6 yl.length k6] 25))
  replace ic := Lib.hid (ic.out.alloc (.cells #[.string y9, .slice A6 yl.length k6] 25))
  replace ix := Lib.hid (ix.out.alloc (.cells #[.string y9, .slice A6 yl.length k6] 25))
  replace iy := Lib.hid (iy.out.alloc (.cells #[.string y9, .slice A6 yl.length k6] 25))
  have b12 := Lib.hid (show Blk ((w4.alloc (.cells #[.string x, .slice A5 xl.length k5] 25)).alloc (.cells #[.string y9, .slice A6 yl.length k6] 25)) (w4.alloc (.cells #[.string x, .slice A5 xl.length k5] 25)).heap.size 25 [.string y9, .slice A6 yl.length k6] from heap_alloc_new (w4.alloc (.cells #[.string x, .slice A5 xl.length k5] 25)) (.cells #[.string y9, .slice A6 yl.length k6] 25))
  clear b50 b51 b5l
  obtain ⟨b50, b51, -, -⟩ := b5.out.two; have b5l := b5.out.lt
  clear b60 b61 b6l
  obtain ⟨b60, b61, -, -⟩ := b6.out.two; have b6l := b6.out.lt
  clear b70 b71 b72 b7l
  obtain ⟨b70, b71, b72, -, -, -⟩ := b7.out.three; have b7l := b7.out.lt
  clear b80 b81 b8l
  obtain ⟨b80, b81, -, -⟩ := b8.out.two; have b8l := b8.out.lt
  clear b110 b111 b11l
  obtain ⟨b110, b111, -, -⟩ := b11.out.two; have b11l := b11.out.lt
  obtain ⟨b120, b121, -, -⟩ := b12.out.two; have b12l := b12.out.lt
  go_wp2_with (go_at_call 16; refine (drawLabOf_any _ _ _ w.heap.size _ hW.out.size (read_below r0.out hW.out)).mono ?_; rintro e5 w5 ⟨⟨tx, xk, rfl, htx, hxk1, hxk2⟩, hb5⟩; replace hW := Lib.hid (Below.then_ hW.out hb5 (Nat.le_refl _)); replace b5 := Lib.hid (b5.out.up hb5); replace b6 := Lib.hid (b6.out.up hb5); replace b7 := Lib.hid (b7.out.up hb5); replace b8 := Lib.hid (b8.out.up hb5); replace b11 := Lib.hid (b11.out.up hb5); replace b12 := Lib.hid (b12.out.up hb5); replace ia := Lib.hid (ia.out.below hb5); replace ib := Lib.hid (ib.out.below hb5); replace ij := Lib.hid (ij.out.below hb5); replace ic := Lib.hid (ic.out.below hb5); replace ix := Lib.hid (ix.out.below hb5); replace iy := Lib.hid (iy.out.below hb5); clear b50 b51 b5l; obtain ⟨b50, b51, -, -⟩ := b5.out.two; have b5l := b5.out.lt; clear b60 b61 b6l; obtain ⟨b60, b61, -, -⟩ := b6.out.two; have b6l := b6.out.lt; clear b70 b71 b72 b7l; obtain ⟨b70, b71, b72, -, -, -⟩ := b7.out.three; have b7l := b7.out.lt; clear b80 b81 b8l; obtain ⟨b80, b81, -, -⟩ := b8.out.two; have b8l := b8.out.lt; clear b110 b111 b11l; obtain ⟨b110, b111, -, -⟩ := b11.out.two; have b11l := b11.out.lt; clear b120 b121 b12l; obtain ⟨b120, b121, -, -⟩ := b12.out.two; have b12l := b12.out.lt; have z5 := Lib.hid (show (w4.alloc (.cells #[.string x, .slice A5 xl.length k5] 25)).heap.size + 1 ≤ w5.heap.size from Nat.le_trans (by simp) hb5.size); replace hb5 := Lib.hid hb5)
  obtain ⟨⟨oc, ot, ol⟩, hO⟩ : ∃ R, R = labOfR tx xk := ⟨_, rfl⟩
  have ro := Lib.hid (show oc = 0 → labB ot ol = true from by have := labOfR_right tx xk; rw [← hO] at this; exact this)
  have ho1 : ot.size ≤ 201 := by have := labOfR_size2 tx xk; rw [← hO] at this; exact Nat.le_trans this htx
  have htx2 : tx.size ≤ maxLen := by unfold maxLen; omega
  obtain ⟨r, hr⟩ : ∃ r, r = redT t l := ⟨_, rfl⟩
  obtain ⟨mt, hmt⟩ : ∃ r, r = markT t l := ⟨_, rfl⟩
  obtain ⟨sb, hsb⟩ : ∃ r, r = sameB x y9 xl yl mk := ⟨_, rfl⟩
  obtain ⟨al, hal⟩ : ∃ r, r = alikeB x y9 xl yl := ⟨_, rfl⟩
  obtain ⟨lr, hlr⟩ : ∃ r, r = labB t l := ⟨_, rfl⟩
  replace hR := Lib.hid hR
  replace hC := Lib.hid hC
  replace hO := Lib.hid hO
  replace hr := Lib.hid hr
  replace hmt := Lib.hid hmt
  replace hsb := Lib.hid hsb
  replace hal := Lib.hid hal
  replace hlr := Lib.hid hlr
  go_wp2_with (go_at_call 17; refine (TextIs.as hr.out (implRedact_any t _ l _ (by omega) ia.out)).mono ?_; rintro e6 w6 ⟨rfl, hb6⟩; replace hW := Lib.hid (Below.then_ hW.out hb6 (Nat.le_refl _)); replace b5 := Lib.hid (b5.out.up hb6); replace b6 := Lib.hid (b6.out.up hb6); replace b7 := Lib.hid (b7.out.up hb6); replace b8 := Lib.hid (b8.out.up hb6); replace b11 := Lib.hid (b11.out.up hb6); replace b12 := Lib.hid (b12.out.up hb6); replace ia := Lib.hid (ia.out.below hb6); replace ib := Lib.hid (ib.out.below hb6); replace ij := Lib.hid (ij.out.below hb6); replace ic := Lib.hid (ic.out.below hb6); replace ix := Lib.hid (ix.out.below hb6); replace iy := Lib.hid (iy.out.below hb6); clear b50 b51 b5l; obtain ⟨b50, b51, -, -⟩ := b5.out.two; have b5l := b5.out.lt; clear b60 b61 b6l; obtain ⟨b60, b61, -, -⟩ := b6.out.two; have b6l := b6.out.lt; clear b70 b71 b72 b7l; obtain ⟨b70, b71, b72, -, -, -⟩ := b7.out.three; have b7l := b7.out.lt; clear b80 b81 b8l; obtain ⟨b80, b81, -, -⟩ := b8.out.two; have b8l := b8.out.lt; clear b110 b111 b11l; obtain ⟨b110, b111, -, -⟩ := b11.out.two; have b11l := b11.out.lt; clear b120 b121 b12l; obtain ⟨b120, b121, -, -⟩ := b12.out.two; have b12l := b12.out.lt; have z6 := Lib.hid (show w5.heap.size ≤ w6.heap.size from Nat.le_trans (Nat.le_refl _) hb6.size); replace hb6 := Lib.hid hb6)
  go_wp2_with fail
  clear b50 b51 b60 b61 b70 b71 b72 b80 b81 b110 b111 b120 b121
  refine wp_region_known [(.is (.agg #[.string jt, .slice A3 jl.length k3, .int .i64 jc])), (.is (.agg #[.string t, .slice A1 l.length k1])), (.is (.agg #[.string s, .slice A2 m.length k2])), (.out ⟨jc, jt, jl⟩), (.is (.bool true)), (.is (.bool false)), (.is (.bool false)), (.is (.agg #[.string u, .slice A4 p.length k4])), (.is (.int .i64 x0)), (.is (.int .i64 y0)), (.out ⟨cc, ct, cl⟩), (.is (.agg #[.string u, .slice A4 p.length k4])), (.is (.int .i64 x0)), (.is (.int .i64 y0)), (.out ⟨cc, ct, cl⟩), (.is (.bool true)), (.is (.bool false)), (.is (.bool false)), (.is (.bool false)), (.is (.agg #[.string x, .slice A5 xl.length k5])), (.is (.agg #[.string y9, .slice A6 yl.length k6])), (.is (.int .i64 mk)), (.is (.bool sb)), (.is (.agg #[.string x, .slice A5 xl.length k5])), (.is (.agg #[.string y9, .slice A6 yl.length k6])), (.is (.int .i64 mk)), (.is (.bool sb)), (.is (.bool false)), (.is (.bool false)), (.is (.bool false)), (.is (.string tx)), (.is (.int .i64 xk)), (.out ⟨oc, ot, ol⟩), (.is (.string tx)), (.is (.int .i64 xk)), (.out ⟨oc, ot, ol⟩), (.is (.bool true)), (.is (.bool false)), (.is (.bool false)), (.is (.bool false)), (.is (.string r)), (.is (.agg #[.string t, .slice A1 l.length k1])), (.is (.string r)), (.is (.bool false)), (.is (.bool false)), (.is (.bool false)), (.is (.agg #[.string t, .slice A1 l.length k1])), (.is (.int .i64 mt)), (.is (.agg #[.string t, .slice A1 l.length k1])), (.is (.int .i64 mt)), (.is (.bool false)), (.is (.bool false)), (.is (.bool false)), (.is (.agg #[.string x, .slice A5 xl.length k5])), (.is (.agg #[.string y9, .slice A6 yl.length k6])), (.is (.bool al)), (.is (.agg #[.string x, .slice A5 xl.length k5])), (.is (.agg #[.string y9, .slice A6 yl.length k6])), (.is (.bool al)), (.is (.bool false)), (.is (.bool false)), (.is (.bool false)), (.is (.agg #[.string t, .slice A1 l.length k1])), (.is (.bool lr)), (.is (.agg #[.string t, .slice A1 l.length k1])), (.is (.bool lr)), (.is (.bool false)), (.is (.bool false))] (by kernel_rfl) (by kernel_rfl) (by kernel_rfl) ⟨?_, ?_, ?_, ?_, ?_, ?_, ?_, ?_, ?_, ?_, ?_, ?_, ?_, ?_, ?_, ?_, ?_, ?_, ?_, ?_, ?_, ?_, ?_, ?_, ?_, ?_, ?_, ?_, ?_, ?_, ?_, ?_, ?_, ?_, ?_, ?_, ?_, ?_, ?_, ?_, ?_, ?_, ?_, ?_, ?_, ?_, ?_, ?_, ?_, ?_, ?_, ?_, ?_, ?_, ?_, ?_, ?_, ?_, ?_, ?_, ?_, ?_, ?_, ?_, ?_, ?_, ?_, ?_, trivial⟩ ?_
  · intro y W next hl hJ hd hn
    refine Or.inl ⟨wanted_free rfl, fun ev ec ef hev => ?_⟩
    have e7 : ev (.tmp 7) = .pointer (some ⟨w2.heap.size, 0, none⟩) := hev 7 _ ((hl.2 7 (by kernel_rfl)).trans (by kernel_rfl))
    clear hd hl hev
    have x0' := (b7.out.up hJ).three.1
    have x1' := (b7.out.up hJ).three.2.1
    have x2' := (b7.out.up hJ).three.2.2.1
    replace hJ := Lib.hid hJ
    go_simp
    exact hn _ _ (Below.refl _ _) rfl
  · intro y W next hl hJ hd hn
    refine Or.inl ⟨wanted_free rfl, fun ev ec ef hev => ?_⟩
    have e5 : ev (.tmp 5) = .pointer (some ⟨w1.heap.size, 0, none⟩) := hev 5 _ ((hl.2 5 (by kernel_rfl)).trans (by kernel_rfl))
    clear hd hl hev
    have x0' := (b5.out.up hJ).two.1
    have x1' := (b5.out.up hJ).two.2.1
    replace hJ := Lib.hid hJ
    go_simp
    exact hn _ _ (Below.refl _ _) rfl
  · intro y W next hl hJ hd hn
    refine Or.inl ⟨wanted_free rfl, fun ev ec ef hev => ?_⟩
    have e6 : ev (.tmp 6) = .pointer (some ⟨w1.heap.size + 1, 0, none⟩) := hev 6 _ ((hl.2 6 (by kernel_rfl)).trans (by kernel_rfl))
    clear hd hl hev
    have x0' := (b6.out.up hJ).two.1
    have x1' := (b6.out.up hJ).two.2.1
    simp only [World.size_alloc] at x0' x1'
    replace hJ := Lib.hid hJ
    go_simp
    exact hn _ _ (Below.refl _ _) rfl
  · intro y W next hl hJ hd hn
    refine Or.inl ⟨wanted_free rfl, fun ev ec ef hev => ?_⟩
    have e56 : ev (.tmp 56) =  (.agg #[.string t, .slice A1 l.length k1]) := hev 56 _ ((hl.1 1 56 (by kernel_rfl) (by kernel_rfl)).trans (congrArg some (show y 1 =  (.agg #[.string t, .slice A1 l.length k1]) from hd 1 (by kernel_rfl))))
    have e57 : ev (.tmp 57) =  (.agg #[.string s, .slice A2 m.length k2]) := hev 57 _ ((hl.1 2 57 (by kernel_rfl) (by kernel_rfl)).trans (congrArg some (show y 2 =  (.agg #[.string s, .slice A2 m.length k2]) from hd 2 (by kernel_rfl))))
    clear hd hl hev
    replace hJ := Lib.hid hJ
    go_simp
    refine (implJoin_as hR.out (specLabJoin_any t s _ _ l m W (by omega) (by omega) (ia.out.below hJ.out) (ib.out.below hJ.out))).mono ?_
    rintro e w' ⟨A9, k9, rfl, ho, hb⟩
    exact ⟨_, rfl, hn _ _ hb ⟨A9, k9, rfl, ho.ints⟩⟩
  · intro y W next hl hJ hd hn
    refine Or.inl ⟨wanted_free rfl, fun ev ec ef hev => ?_⟩
    have e55 : ev (.tmp 55) =  (.agg #[.string jt, .slice A3 jl.length k3, .int .i64 jc]) := hev 55 _ ((hl.1 0 55 (by kernel_rfl) (by kernel_rfl)).trans (congrArg some (show y 0 =  (.agg #[.string jt, .slice A3 jl.length k3, .int .i64 jc]) from hd 0 (by kernel_rfl))))
    obtain ⟨A58, k58, f58, i58⟩ : OutIs ⟨jc, jt, jl⟩ (y 3) W := hd 3 (by kernel_rfl)
    have e58 := hev 58 _ ((hl.1 3 58 (by kernel_rfl) (by kernel_rfl)).trans (congrArg some f58))
    dsimp only at e58 i58; clear f58
    clear hd hl hev
    replace hJ := Lib.hid hJ
    go_simp
    refine (lwLabs_any jt jl jc A3 A58 k3 k58 W (by omega) (ij.out.below hJ.out) i58 rj.out).mono ?_
    rintro e w' ⟨rfl, hb⟩
    exact ⟨_, rfl, hn _ _ hb rfl⟩
  · intro y W next hl hJ hd hn
    refine Or.inl ⟨wanted_free rfl, fun ev ec ef hev => ?_⟩
    have e59 : ev (.tmp 59) =  (.bool true) := hev 59 _ ((hl.1 4 59 (by kernel_rfl) (by kernel_rfl)).trans (congrArg some (show y 4 =  (.bool true) from hd 4 (by kernel_rfl))))
    clear hd hl hev
    replace hJ := Lib.hid hJ
    go_simp
    exact hn _ _ (Below.refl _ _) rfl
  · intro y W next hl hJ hd hn
    refine Or.inl ⟨wanted_free rfl, fun ev ec ef hev => ?_⟩
    have e60 : ev (.tmp 60) =  (.bool false) := hev 60 _ ((hl.1 5 60 (by kernel_rfl) (by kernel_rfl)).trans (congrArg some (show y 5 =  (.bool false) from hd 5 (by kernel_rfl))))
    clear hd hl hev
    replace hJ := Lib.hid hJ
    go_simp
    exact hn _ _ (Below.refl _ _) rfl
  · intro y W next hl hJ hd hn
    refine Or.inl ⟨wanted_of (j := 6) (d := 61) rfl rfl rfl ((hl.1 6 61 (by kernel_rfl) (by kernel_rfl)).trans (congrArg some (show y 6 = .bool false from hd 6 (by kernel_rfl)))), fun ev ec ef hev => ?_⟩
    have e8 : ev (.tmp 8) = .pointer (some ⟨w3.heap.size, 0, none⟩) := hev 8 _ ((hl.2 8 (by kernel_rfl)).trans (by kernel_rfl))
    clear hd hl hev
    have x0' := (b8.out.up hJ).two.1
    have x1' := (b8.out.up hJ).two.2.1
    replace hJ := Lib.hid hJ
    go_simp
    exact hn _ _ (Below.refl _ _) rfl
  · intro y W next hl hJ hd hn
    refine Or.inl ⟨wanted_of (j := 6) (d := 61) rfl rfl rfl ((hl.1 6 61 (by kernel_rfl) (by kernel_rfl)).trans (congrArg some (show y 6 = .bool false from hd 6 (by kernel_rfl)))), fun ev ec ef hev => ?_⟩
    have e9 : ev (.tmp 9) = .int .i64 x0 := hev 9 _ ((hl.2 9 (by kernel_rfl)).trans (by kernel_rfl))
    clear hd hl hev
    replace hJ := Lib.hid hJ
    go_simp
    exact hn _ _ (Below.refl _ _) rfl
  · intro y W next hl hJ hd hn
    refine Or.inl ⟨wanted_of (j := 6) (d := 61) rfl rfl rfl ((hl.1 6 61 (by kernel_rfl) (by kernel_rfl)).trans (congrArg some (show y 6 = .bool false from hd 6 (by kernel_rfl)))), fun ev ec ef hev => ?_⟩
    have e10 : ev (.tmp 10) = .int .i64 y0 := hev 10 _ ((hl.2 10 (by kernel_rfl)).trans (by kernel_rfl))
    clear hd hl hev
    replace hJ := Lib.hid hJ
    go_simp
    exact hn _ _ (Below.refl _ _) rfl
  · intro y W next hl hJ hd hn
    refine Or.inl ⟨wanted_of (j := 6) (d := 61) rfl rfl rfl ((hl.1 6 61 (by kernel_rfl) (by kernel_rfl)).trans (congrArg some (show y 6 = .bool false from hd 6 (by kernel_rfl)))), fun ev ec ef hev => ?_⟩
    have e62 : ev (.tmp 62) =  (.agg #[.string u, .slice A4 p.length k4]) := hev 62 _ ((hl.1 7 62 (by kernel_rfl) (by kernel_rfl)).trans (congrArg some (show y 7 =  (.agg #[.string u, .slice A4 p.length k4]) from hd 7 (by kernel_rfl))))
    have e63 : ev (.tmp 63) =  (.int .i64 x0) := hev 63 _ ((hl.1 8 63 (by kernel_rfl) (by kernel_rfl)).trans (congrArg some (show y 8 =  (.int .i64 x0) from hd 8 (by kernel_rfl))))
    have e64 : ev (.tmp 64) =  (.int .i64 y0) := hev 64 _ ((hl.1 9 64 (by kernel_rfl) (by kernel_rfl)).trans (congrArg some (show y 9 =  (.int .i64 y0) from hd 9 (by kernel_rfl))))
    clear hd hl hev
    replace hJ := Lib.hid hJ
    go_simp
    refine (implJoin_as hC.out (implLabCut_any u _ p x0 y0 W (by omega) (ic.out.below hJ.out) (by omega) (by omega))).mono ?_
    rintro e w' ⟨A9, k9, rfl, ho, hb⟩
    exact ⟨_, rfl, hn _ _ hb ⟨A9, k9, rfl, ho.ints⟩⟩
  · intro y W next hl hJ hd hn
    refine Or.inl ⟨wanted_of (j := 6) (d := 61) rfl rfl rfl ((hl.1 6 61 (by kernel_rfl) (by kernel_rfl)).trans (congrArg some (show y 6 = .bool false from hd 6 (by kernel_rfl)))), fun ev ec ef hev => ?_⟩
    have e8 : ev (.tmp 8) = .pointer (some ⟨w3.heap.size, 0, none⟩) := hev 8 _ ((hl.2 8 (by kernel_rfl)).trans (by kernel_rfl))
    clear hd hl hev
    have x0' := (b8.out.up hJ).two.1
    have x1' := (b8.out.up hJ).two.2.1
    replace hJ := Lib.hid hJ
    go_simp
    exact hn _ _ (Below.refl _ _) rfl
  · intro y W next hl hJ hd hn
    refine Or.inl ⟨wanted_of (j := 6) (d := 61) rfl rfl rfl ((hl.1 6 61 (by kernel_rfl) (by kernel_rfl)).trans (congrArg some (show y 6 = .bool false from hd 6 (by kernel_rfl)))), fun ev ec ef hev => ?_⟩
    have e9 : ev (.tmp 9) = .int .i64 x0 := hev 9 _ ((hl.2 9 (by kernel_rfl)).trans (by kernel_rfl))
    clear hd hl hev
    replace hJ := Lib.hid hJ
    go_simp
    exact hn _ _ (Below.refl _ _) rfl
  · intro y W next hl hJ hd hn
    refine Or.inl ⟨wanted_of (j := 6) (d := 61) rfl rfl rfl ((hl.1 6 61 (by kernel_rfl) (by kernel_rfl)).trans (congrArg some (show y 6 = .bool false from hd 6 (by kernel_rfl)))), fun ev ec ef hev => ?_⟩
    have e10 : ev (.tmp 10) = .int .i64 y0 := hev 10 _ ((hl.2 10 (by kernel_rfl)).trans (by kernel_rfl))
    clear hd hl hev
    replace hJ := Lib.hid hJ
    go_simp
    exact hn _ _ (Below.refl _ _) rfl
  · intro y W next hl hJ hd hn
    refine Or.inl ⟨wanted_of (j := 6) (d := 61) rfl rfl rfl ((hl.1 6 61 (by kernel_rfl) (by kernel_rfl)).trans (congrArg some (show y 6 = .bool false from hd 6 (by kernel_rfl)))), fun ev ec ef hev => ?_⟩
    have e66 : ev (.tmp 66) =  (.agg #[.string u, .slice A4 p.length k4]) := hev 66 _ ((hl.1 11 66 (by kernel_rfl) (by kernel_rfl)).trans (congrArg some (show y 11 =  (.agg #[.string u, .slice A4 p.length k4]) from hd 11 (by kernel_rfl))))
    have e67 : ev (.tmp 67) =  (.int .i64 x0) := hev 67 _ ((hl.1 12 67 (by kernel_rfl) (by kernel_rfl)).trans (congrArg some (show y 12 =  (.int .i64 x0) from hd 12 (by kernel_rfl))))
    have e68 : ev (.tmp 68) =  (.int .i64 y0) := hev 68 _ ((hl.1 13 68 (by kernel_rfl) (by kernel_rfl)).trans (congrArg some (show y 13 =  (.int .i64 y0) from hd 13 (by kernel_rfl))))
    clear hd hl hev
    replace hJ := Lib.hid hJ
    go_simp
    refine (implJoin_as hC.out (specLabCut_any u _ p x0 y0 W (by omega) (ic.out.below hJ.out))).mono ?_
    rintro e w' ⟨A9, k9, rfl, ho, hb⟩
    exact ⟨_, rfl, hn _ _ hb ⟨A9, k9, rfl, ho.ints⟩⟩
  · intro y W next hl hJ hd hn
    refine Or.inl ⟨wanted_of (j := 6) (d := 61) rfl rfl rfl ((hl.1 6 61 (by kernel_rfl) (by kernel_rfl)).trans (congrArg some (show y 6 = .bool false from hd 6 (by kernel_rfl)))), fun ev ec ef hev => ?_⟩
    obtain ⟨A65, k65, f65, i65⟩ : OutIs ⟨cc, ct, cl⟩ (y 10) W := hd 10 (by kernel_rfl)
    have e65 := hev 65 _ ((hl.1 10 65 (by kernel_rfl) (by kernel_rfl)).trans (congrArg some f65))
    dsimp only at e65 i65; clear f65
    obtain ⟨A69, k69, f69, i69⟩ : OutIs ⟨cc, ct, cl⟩ (y 14) W := hd 14 (by kernel_rfl)
    have e69 := hev 69 _ ((hl.1 14 69 (by kernel_rfl) (by kernel_rfl)).trans (congrArg some f69))
    dsimp only at e69 i69; clear f69
    clear hd hl hev
    replace hJ := Lib.hid hJ
    go_simp
    refine (lwLabs_any ct cl cc A65 A69 k65 k69 W (by omega) i65 i69 rc.out).mono ?_
    rintro e w' ⟨rfl, hb⟩
    exact ⟨_, rfl, hn _ _ hb rfl⟩
  · intro y W next hl hJ hd hn
    refine Or.inl ⟨wanted_of (j := 6) (d := 61) rfl rfl rfl ((hl.1 6 61 (by kernel_rfl) (by kernel_rfl)).trans (congrArg some (show y 6 = .bool false from hd 6 (by kernel_rfl)))), fun ev ec ef hev => ?_⟩
    have e70 : ev (.tmp 70) =  (.bool true) := hev 70 _ ((hl.1 15 70 (by kernel_rfl) (by kernel_rfl)).trans (congrArg some (show y 15 =  (.bool true) from hd 15 (by kernel_rfl))))
    clear hd hl hev
    replace hJ := Lib.hid hJ
    go_simp
    exact hn _ _ (Below.refl _ _) rfl
  · intro y W next hl hJ hd hn
    refine Or.inl ⟨wanted_free rfl, fun ev ec ef hev => ?_⟩
    have e61 : ev (.tmp 61) =  (.bool false) := hev 61 _ ((hl.1 6 61 (by kernel_rfl) (by kernel_rfl)).trans (congrArg some (show y 6 =  (.bool false) from hd 6 (by kernel_rfl))))
    have e71 : ev (.tmp 71) =  (.bool false) := hev 71 _ ((hl.1 16 71 (by kernel_rfl) (by kernel_rfl)).trans (congrArg some (show y 16 =  (.bool false) from hd 16 (by kernel_rfl))))
    clear hd hl hev
    replace hJ := Lib.hid hJ
    go_simp
    exact hn _ _ (Below.refl _ _) rfl
  · intro y W next hl hJ hd hn
    refine Or.inl ⟨wanted_free rfl, fun ev ec ef hev => ?_⟩
    have e72 : ev (.tmp 72) =  (.bool false) := hev 72 _ ((hl.1 17 72 (by kernel_rfl) (by kernel_rfl)).trans (congrArg some (show y 17 =  (.bool false) from hd 17 (by kernel_rfl))))
    clear hd hl hev
    replace hJ := Lib.hid hJ
    go_simp
    exact hn _ _ (Below.refl _ _) rfl
  · intro y W next hl hJ hd hn
    refine Or.inl ⟨wanted_of (j := 18) (d := 73) rfl rfl rfl ((hl.1 18 73 (by kernel_rfl) (by kernel_rfl)).trans (congrArg some (show y 18 = .bool false from hd 18 (by kernel_rfl)))), fun ev ec ef hev => ?_⟩
    have e11 : ev (.tmp 11) = .pointer (some ⟨w4.heap.size, 0, none⟩) := hev 11 _ ((hl.2 11 (by kernel_rfl)).trans (by kernel_rfl))
    clear hd hl hev
    have x0' := (b11.out.up hJ).two.1
    have x1' := (b11.out.up hJ).two.2.1
    replace hJ := Lib.hid hJ
    go_simp
    exact hn _ _ (Below.refl _ _) rfl
  · intro y W next hl hJ hd hn
    refine Or.inl ⟨wanted_of (j := 18) (d := 73) rfl rfl rfl ((hl.1 18 73 (by kernel_rfl) (by kernel_rfl)).trans (congrArg some (show y 18 = .bool false from hd 18 (by kernel_rfl)))), fun ev ec ef hev => ?_⟩
    have e12 : ev (.tmp 12) = .pointer (some ⟨w4.heap.size + 1, 0, none⟩) := hev 12 _ ((hl.2 12 (by kernel_rfl)).trans (by kernel_rfl))
    clear hd hl hev
    have x0' := (b12.out.up hJ).two.1
    have x1' := (b12.out.up hJ).two.2.1
    simp only [World.size_alloc] at x0' x1'
    replace hJ := Lib.hid hJ
    go_simp
    exact hn _ _ (Below.refl _ _) rfl
  · intro y W next hl hJ hd hn
    refine Or.inl ⟨wanted_of (j := 18) (d := 73) rfl rfl rfl ((hl.1 18 73 (by kernel_rfl) (by kernel_rfl)).trans (congrArg some (show y 18 = .bool false from hd 18 (by kernel_rfl)))), fun ev ec ef hev => ?_⟩
    have e13 : ev (.tmp 13) = .int .i64 mk := hev 13 _ ((hl.2 13 (by kernel_rfl)).trans (by kernel_rfl))
    clear hd hl hev
    replace hJ := Lib.hid hJ
    go_simp
    exact hn _ _ (Below.refl _ _) rfl
  · intro y W next hl hJ hd hn
    refine Or.inl ⟨wanted_of (j := 18) (d := 73) rfl rfl rfl ((hl.1 18 73 (by kernel_rfl) (by kernel_rfl)).trans (congrArg some (show y 18 = .bool false from hd 18 (by kernel_rfl)))), fun ev ec ef hev => ?_⟩
    have e74 : ev (.tmp 74) =  (.agg #[.string x, .slice A5 xl.length k5]) := hev 74 _ ((hl.1 19 74 (by kernel_rfl) (by kernel_rfl)).trans (congrArg some (show y 19 =  (.agg #[.string x, .slice A5 xl.length k5]) from hd 19 (by kernel_rfl))))
    have e75 : ev (.tmp 75) =  (.agg #[.string y9, .slice A6 yl.length k6]) := hev 75 _ ((hl.1 20 75 (by kernel_rfl) (by kernel_rfl)).trans (congrArg some (show y 20 =  (.agg #[.string y9, .slice A6 yl.length k6]) from hd 20 (by kernel_rfl))))
    have e76 : ev (.tmp 76) =  (.int .i64 mk) := hev 76 _ ((hl.1 21 76 (by kernel_rfl) (by kernel_rfl)).trans (congrArg some (show y 21 =  (.int .i64 mk) from hd 21 (by kernel_rfl))))
    clear hd hl hev
    replace hJ := Lib.hid hJ
    go_simp
    refine (LookEnd.as hsb.out (implSameBut_any x y9 _ _ xl yl mk W (by omega) (by omega) (ix.out.below hJ.out) (iy.out.below hJ.out))).mono ?_
    rintro e w' ⟨rfl, hb⟩
    exact ⟨_, rfl, hn _ _ hb rfl⟩
  · intro y W next hl hJ hd hn
    refine Or.inl ⟨wanted_of (j := 18) (d := 73) rfl rfl rfl ((hl.1 18 73 (by kernel_rfl) (by kernel_rfl)).trans (congrArg some (show y 18 = .bool false from hd 18 (by kernel_rfl)))), fun ev ec ef hev => ?_⟩
    have e11 : ev (.tmp 11) = .pointer (some ⟨w4.heap.size, 0, none⟩) := hev 11 _ ((hl.2 11 (by kernel_rfl)).trans (by kernel_rfl))
    clear hd hl hev
    have x0' := (b11.out.up hJ).two.1
    have x1' := (b11.out.up hJ).two.2.1
    replace hJ := Lib.hid hJ
    go_simp
    exact hn _ _ (Below.refl _ _) rfl
  · intro y W next hl hJ hd hn
    refine Or.inl ⟨wanted_of (j := 18) (d := 73) rfl rfl rfl ((hl.1 18 73 (by kernel_rfl) (by kernel_rfl)).trans (congrArg some (show y 18 = .bool false from hd 18 (by kernel_rfl)))), fun ev ec ef hev => ?_⟩
    have e12 : ev (.tmp 12) = .pointer (some ⟨w4.heap.size + 1, 0, none⟩) := hev 12 _ ((hl.2 12 (by kernel_rfl)).trans (by kernel_rfl))
    clear hd hl hev
    have x0' := (b12.out.up hJ).two.1
    have x1' := (b12.out.up hJ).two.2.1
    simp only [World.size_alloc] at x0' x1'
    replace hJ := Lib.hid hJ
    go_simp
    exact hn _ _ (Below.refl _ _) rfl
  · intro y W next hl hJ hd hn
    refine Or.inl ⟨wanted_of (j := 18) (d := 73) rfl rfl rfl ((hl.1 18 73 (by kernel_rfl) (by kernel_rfl)).trans (congrArg some (show y 18 = .bool false from hd 18 (by kernel_rfl)))), fun ev ec ef hev => ?_⟩
    have e13 : ev (.tmp 13) = .int .i64 mk := hev 13 _ ((hl.2 13 (by kernel_rfl)).trans (by kernel_rfl))
    clear hd hl hev
    replace hJ := Lib.hid hJ
    go_simp
    exact hn _ _ (Below.refl _ _) rfl
  · intro y W next hl hJ hd hn
    refine Or.inl ⟨wanted_of (j := 18) (d := 73) rfl rfl rfl ((hl.1 18 73 (by kernel_rfl) (by kernel_rfl)).trans (congrArg some (show y 18 = .bool false from hd 18 (by kernel_rfl)))), fun ev ec ef hev => ?_⟩
    have e78 : ev (.tmp 78) =  (.agg #[.string x, .slice A5 xl.length k5]) := hev 78 _ ((hl.1 23 78 (by kernel_rfl) (by kernel_rfl)).trans (congrArg some (show y 23 =  (.agg #[.string x, .slice A5 xl.length k5]) from hd 23 (by kernel_rfl))))
    have e79 : ev (.tmp 79) =  (.agg #[.string y9, .slice A6 yl.length k6]) := hev 79 _ ((hl.1 24 79 (by kernel_rfl) (by kernel_rfl)).trans (congrArg some (show y 24 =  (.agg #[.string y9, .slice A6 yl.length k6]) from hd 24 (by kernel_rfl))))
    have e80 : ev (.tmp 80) =  (.int .i64 mk) := hev 80 _ ((hl.1 25 80 (by kernel_rfl) (by kernel_rfl)).trans (congrArg some (show y 25 =  (.int .i64 mk) from hd 25 (by kernel_rfl))))
    clear hd hl hev
    replace hJ := Lib.hid hJ
    go_simp
    refine (LookEnd.as hsb.out (specSameBut_any x y9 _ _ xl yl mk W (by omega) (by omega) (ix.out.below hJ.out) (iy.out.below hJ.out))).mono ?_
    rintro e w' ⟨rfl, hb⟩
    exact ⟨_, rfl, hn _ _ hb rfl⟩
  · intro y W next hl hJ hd hn
    refine Or.inl ⟨wanted_of (j := 18) (d := 73) rfl rfl rfl ((hl.1 18 73 (by kernel_rfl) (by kernel_rfl)).trans (congrArg some (show y 18 = .bool false from hd 18 (by kernel_rfl)))), fun ev ec ef hev => ?_⟩
    have e77 : ev (.tmp 77) =  (.bool sb) := hev 77 _ ((hl.1 22 77 (by kernel_rfl) (by kernel_rfl)).trans (congrArg some (show y 22 =  (.bool sb) from hd 22 (by kernel_rfl))))
    have e81 : ev (.tmp 81) =  (.bool sb) := hev 81 _ ((hl.1 26 81 (by kernel_rfl) (by kernel_rfl)).trans (congrArg some (show y 26 =  (.bool sb) from hd 26 (by kernel_rfl))))
    clear hd hl hev
    replace hJ := Lib.hid hJ
    go_simp
    exact hn _ _ (Below.refl _ _) rfl
  · intro y W next hl hJ hd hn
    refine Or.inl ⟨wanted_free rfl, fun ev ec ef hev => ?_⟩
    have e73 : ev (.tmp 73) =  (.bool false) := hev 73 _ ((hl.1 18 73 (by kernel_rfl) (by kernel_rfl)).trans (congrArg some (show y 18 =  (.bool false) from hd 18 (by kernel_rfl))))
    have e82 : ev (.tmp 82) =  (.bool false) := hev 82 _ ((hl.1 27 82 (by kernel_rfl) (by kernel_rfl)).trans (congrArg some (show y 27 =  (.bool false) from hd 27 (by kernel_rfl))))
    clear hd hl hev
    replace hJ := Lib.hid hJ
    go_simp
    exact hn _ _ (Below.refl _ _) rfl
  · intro y W next hl hJ hd hn
    refine Or.inl ⟨wanted_free rfl, fun ev ec ef hev => ?_⟩
    have e83 : ev (.tmp 83) =  (.bool false) := hev 83 _ ((hl.1 28 83 (by kernel_rfl) (by kernel_rfl)).trans (congrArg some (show y 28 =  (.bool false) from hd 28 (by kernel_rfl))))
    clear hd hl hev
    replace hJ := Lib.hid hJ
    go_simp
    exact hn _ _ (Below.refl _ _) rfl
  · intro y W next hl hJ hd hn
    refine Or.inl ⟨wanted_of (j := 29) (d := 84) rfl rfl rfl ((hl.1 29 84 (by kernel_rfl) (by kernel_rfl)).trans (congrArg some (show y 29 = .bool false from hd 29 (by kernel_rfl)))), fun ev ec ef hev => ?_⟩
    have e14 : ev (.tmp 14) = .string tx := hev 14 _ ((hl.2 14 (by kernel_rfl)).trans (by kernel_rfl))
    clear hd hl hev
    replace hJ := Lib.hid hJ
    go_simp
    exact hn _ _ (Below.refl _ _) rfl
  · intro y W next hl hJ hd hn
    refine Or.inl ⟨wanted_of (j := 29) (d := 84) rfl rfl rfl ((hl.1 29 84 (by kernel_rfl) (by kernel_rfl)).trans (congrArg some (show y 29 = .bool false from hd 29 (by kernel_rfl)))), fun ev ec ef hev => ?_⟩
    have e15 : ev (.tmp 15) = .int .i64 xk := hev 15 _ ((hl.2 15 (by kernel_rfl)).trans (by kernel_rfl))
    clear hd hl hev
    replace hJ := Lib.hid hJ
    go_simp
    exact hn _ _ (Below.refl _ _) rfl
  · intro y W next hl hJ hd hn
    refine Or.inl ⟨wanted_of (j := 29) (d := 84) rfl rfl rfl ((hl.1 29 84 (by kernel_rfl) (by kernel_rfl)).trans (congrArg some (show y 29 = .bool false from hd 29 (by kernel_rfl)))), fun ev ec ef hev => ?_⟩
    have e85 : ev (.tmp 85) =  (.string tx) := hev 85 _ ((hl.1 30 85 (by kernel_rfl) (by kernel_rfl)).trans (congrArg some (show y 30 =  (.string tx) from hd 30 (by kernel_rfl))))
    have e86 : ev (.tmp 86) =  (.int .i64 xk) := hev 86 _ ((hl.1 31 86 (by kernel_rfl) (by kernel_rfl)).trans (congrArg some (show y 31 =  (.int .i64 xk) from hd 31 (by kernel_rfl))))
    clear hd hl hev
    replace hJ := Lib.hid hJ
    go_simp
    refine (implJoin_as hO.out (implLabOf_any tx xk W htx2)).mono ?_
    rintro e w' ⟨A9, k9, rfl, ho, hb⟩
    exact ⟨_, rfl, hn _ _ hb ⟨A9, k9, rfl, ho.ints⟩⟩
  · intro y W next hl hJ hd hn
    refine Or.inl ⟨wanted_of (j := 29) (d := 84) rfl rfl rfl ((hl.1 29 84 (by kernel_rfl) (by kernel_rfl)).trans (congrArg some (show y 29 = .bool false from hd 29 (by kernel_rfl)))), fun ev ec ef hev => ?_⟩
    have e14 : ev (.tmp 14) = .string tx := hev 14 _ ((hl.2 14 (by kernel_rfl)).trans (by kernel_rfl))
    clear hd hl hev
    replace hJ := Lib.hid hJ
    go_simp
    exact hn _ _ (Below.refl _ _) rfl
  · intro y W next hl hJ hd hn
    refine Or.inl ⟨wanted_of (j := 29) (d := 84) rfl rfl rfl ((hl.1 29 84 (by kernel_rfl) (by kernel_rfl)).trans (congrArg some (show y 29 = .bool false from hd 29 (by kernel_rfl)))), fun ev ec ef hev => ?_⟩
    have e15 : ev (.tmp 15) = .int .i64 xk := hev 15 _ ((hl.2 15 (by kernel_rfl)).trans (by kernel_rfl))
    clear hd hl hev
    replace hJ := Lib.hid hJ
    go_simp
    exact hn _ _ (Below.refl _ _) rfl
  · intro y W next hl hJ hd hn
    refine Or.inl ⟨wanted_of (j := 29) (d := 84) rfl rfl rfl ((hl.1 29 84 (by kernel_rfl) (by kernel_rfl)).trans (congrArg some (show y 29 = .bool false from hd 29 (by kernel_rfl)))), fun ev ec ef hev => ?_⟩
    have e88 : ev (.tmp 88) =  (.string tx) := hev 88 _ ((hl.1 33 88 (by kernel_rfl) (by kernel_rfl)).trans (congrArg some (show y 33 =  (.string tx) from hd 33 (by kernel_rfl))))
    have e89 : ev (.tmp 89) =  (.int .i64 xk) := hev 89 _ ((hl.1 34 89 (by kernel_rfl) (by kernel_rfl)).trans (congrArg some (show y 34 =  (.int .i64 xk) from hd 34 (by kernel_rfl))))
    clear hd hl hev
    replace hJ := Lib.hid hJ
    go_simp
    refine (implJoin_as hO.out (specLabOf_any tx xk W htx2)).mono ?_
    rintro e w' ⟨A9, k9, rfl, ho, hb⟩
    exact ⟨_, rfl, hn _ _ hb ⟨A9, k9, rfl, ho.ints⟩⟩
  · intro y W next hl hJ hd hn
    refine Or.inl ⟨wanted_of (j := 29) (d := 84) rfl rfl rfl ((hl.1 29 84 (by kernel_rfl) (by kernel_rfl)).trans (congrArg some (show y 29 = .bool false from hd 29 (by kernel_rfl)))), fun ev ec ef hev => ?_⟩
    obtain ⟨A87, k87, f87, i87⟩ : OutIs ⟨oc, ot, ol⟩ (y 32) W := hd 32 (by kernel_rfl)
    have e87 := hev 87 _ ((hl.1 32 87 (by kernel_rfl) (by kernel_rfl)).trans (congrArg some f87))
    dsimp only at e87 i87; clear f87
    obtain ⟨A90, k90, f90, i90⟩ : OutIs ⟨oc, ot, ol⟩ (y 35) W := hd 35 (by kernel_rfl)
    have e90 := hev 90 _ ((hl.1 35 90 (by kernel_rfl) (by kernel_rfl)).trans (congrArg some f90))
    dsimp only at e90 i90; clear f90
    clear hd hl hev
    replace hJ := Lib.hid hJ
    go_simp
    refine (lwLabs_any ot ol oc A87 A90 k87 k90 W (by omega) i87 i90 ro.out).mono ?_
    rintro e w' ⟨rfl, hb⟩
    exact ⟨_, rfl, hn _ _ hb rfl⟩
  · intro y W next hl hJ hd hn
    refine Or.inl ⟨wanted_of (j := 29) (d := 84) rfl rfl rfl ((hl.1 29 84 (by kernel_rfl) (by kernel_rfl)).trans (congrArg some (show y 29 = .bool false from hd 29 (by kernel_rfl)))), fun ev ec ef hev => ?_⟩
    have e91 : ev (.tmp 91) =  (.bool true) := hev 91 _ ((hl.1 36 91 (by kernel_rfl) (by kernel_rfl)).trans (congrArg some (show y 36 =  (.bool true) from hd 36 (by kernel_rfl))))
    clear hd hl hev
    replace hJ := Lib.hid hJ
    go_simp
    exact hn _ _ (Below.refl _ _) rfl
  · intro y W next hl hJ hd hn
    refine Or.inl ⟨wanted_free rfl, fun ev ec ef hev => ?_⟩
    have e84 : ev (.tmp 84) =  (.bool false) := hev 84 _ ((hl.1 29 84 (by kernel_rfl) (by kernel_rfl)).trans (congrArg some (show y 29 =  (.bool false) from hd 29 (by kernel_rfl))))
    have e92 : ev (.tmp 92) =  (.bool false) := hev 92 _ ((hl.1 37 92 (by kernel_rfl) (by kernel_rfl)).trans (congrArg some (show y 37 =  (.bool false) from hd 37 (by kernel_rfl))))
    clear hd hl hev
    replace hJ := Lib.hid hJ
    go_simp
    exact hn _ _ (Below.refl _ _) rfl
  · intro y W next hl hJ hd hn
    refine Or.inl ⟨wanted_free rfl, fun ev ec ef hev => ?_⟩
    have e93 : ev (.tmp 93) =  (.bool false) := hev 93 _ ((hl.1 38 93 (by kernel_rfl) (by kernel_rfl)).trans (congrArg some (show y 38 =  (.bool false) from hd 38 (by kernel_rfl))))
    clear hd hl hev
    replace hJ := Lib.hid hJ
    go_simp
    exact hn _ _ (Below.refl _ _) rfl
  · intro y W next hl hJ hd hn
    refine Or.inl ⟨wanted_of (j := 39) (d := 94) rfl rfl rfl ((hl.1 39 94 (by kernel_rfl) (by kernel_rfl)).trans (congrArg some (show y 39 = .bool false from hd 39 (by kernel_rfl)))), fun ev ec ef hev => ?_⟩
    have e16 : ev (.tmp 16) = .string r := hev 16 _ ((hl.2 16 (by kernel_rfl)).trans (by kernel_rfl))
    clear hd hl hev
    replace hJ := Lib.hid hJ
    go_simp
    exact hn _ _ (Below.refl _ _) rfl
  · intro y W next hl hJ hd hn
    refine Or.inl ⟨wanted_of (j := 39) (d := 94) rfl rfl rfl ((hl.1 39 94 (by kernel_rfl) (by kernel_rfl)).trans (congrArg some (show y 39 = .bool false from hd 39 (by kernel_rfl)))), fun ev ec ef hev => ?_⟩
    have e5 : ev (.tmp 5) = .pointer (some ⟨w1.heap.size, 0, none⟩) := hev 5 _ ((hl.2 5 (by kernel_rfl)).trans (by kernel_rfl))
    clear hd hl hev
    have x0' := (b5.out.up hJ).two.1
    have x1' := (b5.out.up hJ).two.2.1
    replace hJ := Lib.hid hJ
    go_simp
    exact hn _ _ (Below.refl _ _) rfl
  · intro y W next hl hJ hd hn
    refine Or.inl ⟨wanted_of (j := 39) (d := 94) rfl rfl rfl ((hl.1 39 94 (by kernel_rfl) (by kernel_rfl)).trans (congrArg some (show y 39 = .bool false from hd 39 (by kernel_rfl)))), fun ev ec ef hev => ?_⟩
    have e96 : ev (.tmp 96) =  (.agg #[.string t, .slice A1 l.length k1]) := hev 96 _ ((hl.1 41 96 (by kernel_rfl) (by kernel_rfl)).trans (congrArg some (show y 41 =  (.agg #[.string t, .slice A1 l.length k1]) from hd 41 (by kernel_rfl))))
    clear hd hl hev
    replace hJ := Lib.hid hJ
    go_simp
    refine (TextIs.as hr.out (specRedact_any t _ l W (by omega) (ia.out.below hJ.out))).mono ?_
    rintro e w' ⟨rfl, hb⟩
    exact ⟨_, rfl, hn _ _ hb rfl⟩
  · intro y W next hl hJ hd hn
    refine Or.inl ⟨wanted_of (j := 39) (d := 94) rfl rfl rfl ((hl.1 39 94 (by kernel_rfl) (by kernel_rfl)).trans (congrArg some (show y 39 = .bool false from hd 39 (by kernel_rfl)))), fun ev ec ef hev => ?_⟩
    have e95 : ev (.tmp 95) =  (.string r) := hev 95 _ ((hl.1 40 95 (by kernel_rfl) (by kernel_rfl)).trans (congrArg some (show y 40 =  (.string r) from hd 40 (by kernel_rfl))))
    have e97 : ev (.tmp 97) =  (.string r) := hev 97 _ ((hl.1 42 97 (by kernel_rfl) (by kernel_rfl)).trans (congrArg some (show y 42 =  (.string r) from hd 42 (by kernel_rfl))))
    clear hd hl hev
    replace hJ := Lib.hid hJ
    go_simp
    exact hn _ _ (Below.refl _ _) rfl
  · intro y W next hl hJ hd hn
    refine Or.inl ⟨wanted_free rfl, fun ev ec ef hev => ?_⟩
    have e94 : ev (.tmp 94) =  (.bool false) := hev 94 _ ((hl.1 39 94 (by kernel_rfl) (by kernel_rfl)).trans (congrArg some (show y 39 =  (.bool false) from hd 39 (by kernel_rfl))))
    have e98 : ev (.tmp 98) =  (.bool false) := hev 98 _ ((hl.1 43 98 (by kernel_rfl) (by kernel_rfl)).trans (congrArg some (show y 43 =  (.bool false) from hd 43 (by kernel_rfl))))
    clear hd hl hev
    replace hJ := Lib.hid hJ
    go_simp
    exact hn _ _ (Below.refl _ _) rfl
  · intro y W next hl hJ hd hn
    refine Or.inl ⟨wanted_free rfl, fun ev ec ef hev => ?_⟩
    have e99 : ev (.tmp 99) =  (.bool false) := hev 99 _ ((hl.1 44 99 (by kernel_rfl) (by kernel_rfl)).trans (congrArg some (show y 44 =  (.bool false) from hd 44 (by kernel_rfl))))
    clear hd hl hev
    replace hJ := Lib.hid hJ
    go_simp
    exact hn _ _ (Below.refl _ _) rfl
  · intro y W next hl hJ hd hn
    refine Or.inl ⟨wanted_of (j := 45) (d := 100) rfl rfl rfl ((hl.1 45 100 (by kernel_rfl) (by kernel_rfl)).trans (congrArg some (show y 45 = .bool false from hd 45 (by kernel_rfl)))), fun ev ec ef hev => ?_⟩
    have e5 : ev (.tmp 5) = .pointer (some ⟨w1.heap.size, 0, none⟩) := hev 5 _ ((hl.2 5 (by kernel_rfl)).trans (by kernel_rfl))
    clear hd hl hev
    have x0' := (b5.out.up hJ).two.1
    have x1' := (b5.out.up hJ).two.2.1
    replace hJ := Lib.hid hJ
    go_simp
    exact hn _ _ (Below.refl _ _) rfl
  · intro y W next hl hJ hd hn
    refine Or.inl ⟨wanted_of (j := 45) (d := 100) rfl rfl rfl ((hl.1 45 100 (by kernel_rfl) (by kernel_rfl)).trans (congrArg some (show y 45 = .bool false from hd 45 (by kernel_rfl)))), fun ev ec ef hev => ?_⟩
    have e101 : ev (.tmp 101) =  (.agg #[.string t, .slice A1 l.length k1]) := hev 101 _ ((hl.1 46 101 (by kernel_rfl) (by kernel_rfl)).trans (congrArg some (show y 46 =  (.agg #[.string t, .slice A1 l.length k1]) from hd 46 (by kernel_rfl))))
    clear hd hl hev
    replace hJ := Lib.hid hJ
    go_simp
    refine (IntIs.as hmt.out (implMarkOf_any t _ l W (by omega) (ia.out.below hJ.out))).mono ?_
    rintro e w' ⟨rfl, hb⟩
    exact ⟨_, rfl, hn _ _ hb rfl⟩
  · intro y W next hl hJ hd hn
    refine Or.inl ⟨wanted_of (j := 45) (d := 100) rfl rfl rfl ((hl.1 45 100 (by kernel_rfl) (by kernel_rfl)).trans (congrArg some (show y 45 = .bool false from hd 45 (by kernel_rfl)))), fun ev ec ef hev => ?_⟩
    have e5 : ev (.tmp 5) = .pointer (some ⟨w1.heap.size, 0, none⟩) := hev 5 _ ((hl.2 5 (by kernel_rfl)).trans (by kernel_rfl))
    clear hd hl hev
    have x0' := (b5.out.up hJ).two.1
    have x1' := (b5.out.up hJ).two.2.1
    replace hJ := Lib.hid hJ
    go_simp
    exact hn _ _ (Below.refl _ _) rfl
  · intro y W next hl hJ hd hn
    refine Or.inl ⟨wanted_of (j := 45) (d := 100) rfl rfl rfl ((hl.1 45 100 (by kernel_rfl) (by kernel_rfl)).trans (congrArg some (show y 45 = .bool false from hd 45 (by kernel_rfl)))), fun ev ec ef hev => ?_⟩
    have e103 : ev (.tmp 103) =  (.agg #[.string t, .slice A1 l.length k1]) := hev 103 _ ((hl.1 48 103 (by kernel_rfl) (by kernel_rfl)).trans (congrArg some (show y 48 =  (.agg #[.string t, .slice A1 l.length k1]) from hd 48 (by kernel_rfl))))
    clear hd hl hev
    replace hJ := Lib.hid hJ
    go_simp
    refine (IntIs.as hmt.out (specMarkOf_any t _ l W (by omega) (ia.out.below hJ.out))).mono ?_
    rintro e w' ⟨rfl, hb⟩
    exact ⟨_, rfl, hn _ _ hb rfl⟩
  · intro y W next hl hJ hd hn
    refine Or.inl ⟨wanted_of (j := 45) (d := 100) rfl rfl rfl ((hl.1 45 100 (by kernel_rfl) (by kernel_rfl)).trans (congrArg some (show y 45 = .bool false from hd 45 (by kernel_rfl)))), fun ev ec ef hev => ?_⟩
    have e102 : ev (.tmp 102) =  (.int .i64 mt) := hev 102 _ ((hl.1 47 102 (by kernel_rfl) (by kernel_rfl)).trans (congrArg some (show y 47 =  (.int .i64 mt) from hd 47 (by kernel_rfl))))
    have e104 : ev (.tmp 104) =  (.int .i64 mt) := hev 104 _ ((hl.1 49 104 (by kernel_rfl) (by kernel_rfl)).trans (congrArg some (show y 49 =  (.int .i64 mt) from hd 49 (by kernel_rfl))))
    clear hd hl hev
    replace hJ := Lib.hid hJ
    go_simp
    exact hn _ _ (Below.refl _ _) rfl
  · intro y W next hl hJ hd hn
    refine Or.inl ⟨wanted_free rfl, fun ev ec ef hev => ?_⟩
    have e100 : ev (.tmp 100) =  (.bool false) := hev 100 _ ((hl.1 45 100 (by kernel_rfl) (by kernel_rfl)).trans (congrArg some (show y 45 =  (.bool false) from hd 45 (by kernel_rfl))))
    have e105 : ev (.tmp 105) =  (.bool false) := hev 105 _ ((hl.1 50 105 (by kernel_rfl) (by kernel_rfl)).trans (congrArg some (show y 50 =  (.bool false) from hd 50 (by kernel_rfl))))
    clear hd hl hev
    replace hJ := Lib.hid hJ
    go_simp
    exact hn _ _ (Below.refl _ _) rfl
  · intro y W next hl hJ hd hn
    refine Or.inl ⟨wanted_free rfl, fun ev ec ef hev => ?_⟩
    have e106 : ev (.tmp 106) =  (.bool false) := hev 106 _ ((hl.1 51 106 (by kernel_rfl) (by kernel_rfl)).trans (congrArg some (show y 51 =  (.bool false) from hd 51 (by kernel_rfl))))
    clear hd hl hev
    replace hJ := Lib.hid hJ
    go_simp
    exact hn _ _ (Below.refl _ _) rfl
  · intro y W next hl hJ hd hn
    refine Or.inl ⟨wanted_of (j := 52) (d := 107) rfl rfl rfl ((hl.1 52 107 (by kernel_rfl) (by kernel_rfl)).trans (congrArg some (show y 52 = .bool false from hd 52 (by kernel_rfl)))), fun ev ec ef hev => ?_⟩
    have e11 : ev (.tmp 11) = .pointer (some ⟨w4.heap.size, 0, none⟩) := hev 11 _ ((hl.2 11 (by kernel_rfl)).trans (by kernel_rfl))
    clear hd hl hev
    have x0' := (b11.out.up hJ).two.1
    have x1' := (b11.out.up hJ).two.2.1
    replace hJ := Lib.hid hJ
    go_simp
    exact hn _ _ (Below.refl _ _) rfl
  · intro y W next hl hJ hd hn
    refine Or.inl ⟨wanted_of (j := 52) (d := 107) rfl rfl rfl ((hl.1 52 107 (by kernel_rfl) (by kernel_rfl)).trans (congrArg some (show y 52 = .bool false from hd 52 (by kernel_rfl)))), fun ev ec ef hev => ?_⟩
    have e12 : ev (.tmp 12) = .pointer (some ⟨w4.heap.size + 1, 0, none⟩) := hev 12 _ ((hl.2 12 (by kernel_rfl)).trans (by kernel_rfl))
    clear hd hl hev
    have x0' := (b12.out.up hJ).two.1
    have x1' := (b12.out.up hJ).two.2.1
    simp only [World.size_alloc] at x0' x1'
    replace hJ := Lib.hid hJ
    go_simp
    exact hn _ _ (Below.refl _ _) rfl
  · intro y W next hl hJ hd hn
    refine Or.inl ⟨wanted_of (j := 52) (d := 107) rfl rfl rfl ((hl.1 52 107 (by kernel_rfl) (by kernel_rfl)).trans (congrArg some (show y 52 = .bool false from hd 52 (by kernel_rfl)))), fun ev ec ef hev => ?_⟩
    have e108 : ev (.tmp 108) =  (.agg #[.string x, .slice A5 xl.length k5]) := hev 108 _ ((hl.1 53 108 (by kernel_rfl) (by kernel_rfl)).trans (congrArg some (show y 53 =  (.agg #[.string x, .slice A5 xl.length k5]) from hd 53 (by kernel_rfl))))
    have e109 : ev (.tmp 109) =  (.agg #[.string y9, .slice A6 yl.length k6]) := hev 109 _ ((hl.1 54 109 (by kernel_rfl) (by kernel_rfl)).trans (congrArg some (show y 54 =  (.agg #[.string y9, .slice A6 yl.length k6]) from hd 54 (by kernel_rfl))))
    clear hd hl hev
    replace hJ := Lib.hid hJ
    go_simp
    refine (LookEnd.as hal.out (implLabSame_any x y9 _ _ xl yl W (ix.out.below hJ.out) (iy.out.below hJ.out))).mono ?_
    rintro e w' ⟨rfl, hb⟩
    exact ⟨_, rfl, hn _ _ hb rfl⟩
  · intro y W next hl hJ hd hn
    refine Or.inl ⟨wanted_of (j := 52) (d := 107) rfl rfl rfl ((hl.1 52 107 (by kernel_rfl) (by kernel_rfl)).trans (congrArg some (show y 52 = .bool false from hd 52 (by kernel_rfl)))), fun ev ec ef hev => ?_⟩
    have e11 : ev (.tmp 11) = .pointer (some ⟨w4.heap.size, 0, none⟩) := hev 11 _ ((hl.2 11 (by kernel_rfl)).trans (by kernel_rfl))
    clear hd hl hev
    have x0' := (b11.out.up hJ).two.1
    have x1' := (b11.out.up hJ).two.2.1
    replace hJ := Lib.hid hJ
    go_simp
    exact hn _ _ (Below.refl _ _) rfl
  · intro y W next hl hJ hd hn
    refine Or.inl ⟨wanted_of (j := 52) (d := 107) rfl rfl rfl ((hl.1 52 107 (by kernel_rfl) (by kernel_rfl)).trans (congrArg some (show y 52 = .bool false from hd 52 (by kernel_rfl)))), fun ev ec ef hev => ?_⟩
    have e12 : ev (.tmp 12) = .pointer (some ⟨w4.heap.size + 1, 0, none⟩) := hev 12 _ ((hl.2 12 (by kernel_rfl)).trans (by kernel_rfl))
    clear hd hl hev
    have x0' := (b12.out.up hJ).two.1
    have x1' := (b12.out.up hJ).two.2.1
    simp only [World.size_alloc] at x0' x1'
    replace hJ := Lib.hid hJ
    go_simp
    exact hn _ _ (Below.refl _ _) rfl
  · intro y W next hl hJ hd hn
    refine Or.inl ⟨wanted_of (j := 52) (d := 107) rfl rfl rfl ((hl.1 52 107 (by kernel_rfl) (by kernel_rfl)).trans (congrArg some (show y 52 = .bool false from hd 52 (by kernel_rfl)))), fun ev ec ef hev => ?_⟩
    have e111 : ev (.tmp 111) =  (.agg #[.string x, .slice A5 xl.length k5]) := hev 111 _ ((hl.1 56 111 (by kernel_rfl) (by kernel_rfl)).trans (congrArg some (show y 56 =  (.agg #[.string x, .slice A5 xl.length k5]) from hd 56 (by kernel_rfl))))
    have e112 : ev (.tmp 112) =  (.agg #[.string y9, .slice A6 yl.length k6]) := hev 112 _ ((hl.1 57 112 (by kernel_rfl) (by kernel_rfl)).trans (congrArg some (show y 57 =  (.agg #[.string y9, .slice A6 yl.length k6]) from hd 57 (by kernel_rfl))))
    clear hd hl hev
    replace hJ := Lib.hid hJ
    go_simp
    refine (LookEnd.as hal.out (specLabSame_any x y9 _ _ xl yl W (ix.out.below hJ.out) (iy.out.below hJ.out))).mono ?_
    rintro e w' ⟨rfl, hb⟩
    exact ⟨_, rfl, hn _ _ hb rfl⟩
  · intro y W next hl hJ hd hn
    refine Or.inl ⟨wanted_of (j := 52) (d := 107) rfl rfl rfl ((hl.1 52 107 (by kernel_rfl) (by kernel_rfl)).trans (congrArg some (show y 52 = .bool false from hd 52 (by kernel_rfl)))), fun ev ec ef hev => ?_⟩
    have e110 : ev (.tmp 110) =  (.bool al) := hev 110 _ ((hl.1 55 110 (by kernel_rfl) (by kernel_rfl)).trans (congrArg some (show y 55 =  (.bool al) from hd 55 (by kernel_rfl))))
    have e113 : ev (.tmp 113) =  (.bool al) := hev 113 _ ((hl.1 58 113 (by kernel_rfl) (by kernel_rfl)).trans (congrArg some (show y 58 =  (.bool al) from hd 58 (by kernel_rfl))))
    clear hd hl hev
    replace hJ := Lib.hid hJ
    go_simp
    exact hn _ _ (Below.refl _ _) rfl
  · intro y W next hl hJ hd hn
    refine Or.inl ⟨wanted_free rfl, fun ev ec ef hev => ?_⟩
    have e107 : ev (.tmp 107) =  (.bool false) := hev 107 _ ((hl.1 52 107 (by kernel_rfl) (by kernel_rfl)).trans (congrArg some (show y 52 =  (.bool false) from hd 52 (by kernel_rfl))))
    have e114 : ev (.tmp 114) =  (.bool false) := hev 114 _ ((hl.1 59 114 (by kernel_rfl) (by kernel_rfl)).trans (congrArg some (show y 59 =  (.bool false) from hd 59 (by kernel_rfl))))
    clear hd hl hev
    replace hJ := Lib.hid hJ
    go_simp
    exact hn _ _ (Below.refl _ _) rfl
  · intro y W next hl hJ hd hn
    refine Or.inl ⟨wanted_free rfl, fun ev ec ef hev => ?_⟩
    have e115 : ev (.tmp 115) =  (.bool false) := hev 115 _ ((hl.1 60 115 (by kernel_rfl) (by kernel_rfl)).trans (congrArg some (show y 60 =  (.bool false) from hd 60 (by kernel_rfl))))
    clear hd hl hev
    replace hJ := Lib.hid hJ
    go_simp
    exact hn _ _ (Below.refl _ _) rfl
  · intro y W next hl hJ hd hn
    refine Or.inl ⟨wanted_of (j := 61) (d := 116) rfl rfl rfl ((hl.1 61 116 (by kernel_rfl) (by kernel_rfl)).trans (congrArg some (show y 61 = .bool false from hd 61 (by kernel_rfl)))), fun ev ec ef hev => ?_⟩
    have e5 : ev (.tmp 5) = .pointer (some ⟨w1.heap.size, 0, none⟩) := hev 5 _ ((hl.2 5 (by kernel_rfl)).trans (by kernel_rfl))
    clear hd hl hev
    have x0' := (b5.out.up hJ).two.1
    have x1' := (b5.out.up hJ).two.2.1
    replace hJ := Lib.hid hJ
    go_simp
    exact hn _ _ (Below.refl _ _) rfl
  · intro y W next hl hJ hd hn
    refine Or.inl ⟨wanted_of (j := 61) (d := 116) rfl rfl rfl ((hl.1 61 116 (by kernel_rfl) (by kernel_rfl)).trans (congrArg some (show y 61 = .bool false from hd 61 (by kernel_rfl)))), fun ev ec ef hev => ?_⟩
    have e117 : ev (.tmp 117) =  (.agg #[.string t, .slice A1 l.length k1]) := hev 117 _ ((hl.1 62 117 (by kernel_rfl) (by kernel_rfl)).trans (congrArg some (show y 62 =  (.agg #[.string t, .slice A1 l.length k1]) from hd 62 (by kernel_rfl))))
    clear hd hl hev
    replace hJ := Lib.hid hJ
    go_simp
    refine (LookEnd.as hlr.out (implLabRight_any t _ l W (by omega) (ia.out.below hJ.out))).mono ?_
    rintro e w' ⟨rfl, hb⟩
    exact ⟨_, rfl, hn _ _ hb rfl⟩
  · intro y W next hl hJ hd hn
    refine Or.inl ⟨wanted_of (j := 61) (d := 116) rfl rfl rfl ((hl.1 61 116 (by kernel_rfl) (by kernel_rfl)).trans (congrArg some (show y 61 = .bool false from hd 61 (by kernel_rfl)))), fun ev ec ef hev => ?_⟩
    have e5 : ev (.tmp 5) = .pointer (some ⟨w1.heap.size, 0, none⟩) := hev 5 _ ((hl.2 5 (by kernel_rfl)).trans (by kernel_rfl))
    clear hd hl hev
    have x0' := (b5.out.up hJ).two.1
    have x1' := (b5.out.up hJ).two.2.1
    replace hJ := Lib.hid hJ
    go_simp
    exact hn _ _ (Below.refl _ _) rfl
  · intro y W next hl hJ hd hn
    refine Or.inl ⟨wanted_of (j := 61) (d := 116) rfl rfl rfl ((hl.1 61 116 (by kernel_rfl) (by kernel_rfl)).trans (congrArg some (show y 61 = .bool false from hd 61 (by kernel_rfl)))), fun ev ec ef hev => ?_⟩
    have e119 : ev (.tmp 119) =  (.agg #[.string t, .slice A1 l.length k1]) := hev 119 _ ((hl.1 64 119 (by kernel_rfl) (by kernel_rfl)).trans (congrArg some (show y 64 =  (.agg #[.string t, .slice A1 l.length k1]) from hd 64 (by kernel_rfl))))
    clear hd hl hev
    replace hJ := Lib.hid hJ
    go_simp
    refine (LookEnd.as hlr.out (specLabRight_any t _ l W (by omega) (ia.out.below hJ.out))).mono ?_
    rintro e w' ⟨rfl, hb⟩
    exact ⟨_, rfl, hn _ _ hb rfl⟩
  · intro y W next hl hJ hd hn
    refine Or.inl ⟨wanted_of (j := 61) (d := 116) rfl rfl rfl ((hl.1 61 116 (by kernel_rfl) (by kernel_rfl)).trans (congrArg some (show y 61 = .bool false from hd 61 (by kernel_rfl)))), fun ev ec ef hev => ?_⟩
    have e118 : ev (.tmp 118) =  (.bool lr) := hev 118 _ ((hl.1 63 118 (by kernel_rfl) (by kernel_rfl)).trans (congrArg some (show y 63 =  (.bool lr) from hd 63 (by kernel_rfl))))
    have e120 : ev (.tmp 120) =  (.bool lr) := hev 120 _ ((hl.1 65 120 (by kernel_rfl) (by kernel_rfl)).trans (congrArg some (show y 65 =  (.bool lr) from hd 65 (by kernel_rfl))))
    clear hd hl hev
    replace hJ := Lib.hid hJ
    go_simp
    exact hn _ _ (Below.refl _ _) rfl
  · intro y W next hl hJ hd hn
    refine Or.inl ⟨wanted_free rfl, fun ev ec ef hev => ?_⟩
    have e116 : ev (.tmp 116) =  (.bool false) := hev 116 _ ((hl.1 61 116 (by kernel_rfl) (by kernel_rfl)).trans (congrArg some (show y 61 =  (.bool false) from hd 61 (by kernel_rfl))))
    have e121 : ev (.tmp 121) =  (.bool false) := hev 121 _ ((hl.1 66 121 (by kernel_rfl) (by kernel_rfl)).trans (congrArg some (show y 66 =  (.bool false) from hd 66 (by kernel_rfl))))
    clear hd hl hev
    replace hJ := Lib.hid hJ
    go_simp
    exact hn _ _ (Below.refl _ _) rfl
  · intro y w7 hB hd
    have e67 : y 67 = .bool false := hd 67 (by decide)
    clear hd
    simp only [List.append, lay_cons, lay_nil]
    simp only [Act.put, List.setIfInBounds_toArray]
    simp only [List.set_cons_succ, List.set_cons_zero]
    replace hW := Lib.hid (Below.then_ hW.out hB (Nat.le_refl _))
    replace b5 := Lib.hid (b5.out.up hB)
    replace b6 := Lib.hid (b6.out.up hB)
    replace b7 := Lib.hid (b7.out.up hB)
    replace b8 := Lib.hid (b8.out.up hB)
    replace b11 := Lib.hid (b11.out.up hB)
    replace b12 := Lib.hid (b12.out.up hB)
    replace ia := Lib.hid (ia.out.below hB)
    replace ib := Lib.hid (ib.out.below hB)
    replace ij := Lib.hid (ij.out.below hB)
    replace ic := Lib.hid (ic.out.below hB)
    replace ix := Lib.hid (ix.out.below hB)
    replace iy := Lib.hid (iy.out.below hB)
    clear hB
    rw [e67]
    clear e67
    obtain ⟨sx, hsx⟩ : ∃ b, b = sameB x y9 xl yl 15 := ⟨_, rfl⟩
    replace hsx := Lib.hid hsx
    go_wp2_with fail
    refine wp_region_known (match sx with | false => [(.is (.agg #[.string x, .slice A5 xl.length k5])), (.is (.agg #[.string y9, .slice A6 yl.length k6])), (.is (.bool false)), (.is (.bool false)), .any, .any, .any, .any, .any, (.is (.bool false))] | true => [(.is (.agg #[.string x, .slice A5 xl.length k5])), (.is (.agg #[.string y9, .slice A6 yl.length k6])), (.is (.bool true)), (.is (.bool true)), (.is (.agg #[.string x, .slice A5 xl.length k5])), (.is (.string (redT x xl))), (.is (.agg #[.string y9, .slice A6 yl.length k6])), (.is (.string (redT y9 yl))), (.is (.bool false)), (.is (.bool false))]) (by kernel_rfl) (by kernel_rfl) (by kernel_rfl) ⟨?_, ?_, ?_, ?_, ?_, ?_, ?_, ?_, ?_, ?_, trivial⟩ ?_
    · cases sx
      · intro y W next hl hJ hd hn
        refine Or.inl ⟨wanted_free rfl, fun ev ec ef hev => ?_⟩
        have e11 : ev (.tmp 11) = .pointer (some ⟨w4.heap.size, 0, none⟩) := hev 11 _ ((hl.2 11 (by kernel_rfl)).trans (by kernel_rfl))
        clear hd hl hev
        have x0' := (b11.out.up hJ).two.1
        have x1' := (b11.out.up hJ).two.2.1
        replace hJ := Lib.hid hJ
        go_simp
        exact hn _ _ (Below.refl _ _) rfl
      · intro y W next hl hJ hd hn
        refine Or.inl ⟨wanted_free rfl, fun ev ec ef hev => ?_⟩
        have e11 : ev (.tmp 11) = .pointer (some ⟨w4.heap.size, 0, none⟩) := hev 11 _ ((hl.2 11 (by kernel_rfl)).trans (by kernel_rfl))
        clear hd hl hev
        have x0' := (b11.out.up hJ).two.1
        have x1' := (b11.out.up hJ).two.2.1
        replace hJ := Lib.hid hJ
        go_simp
        exact hn _ _ (Below.refl _ _) rfl
    · cases sx
      · intro y W next hl hJ hd hn
        refine Or.inl ⟨wanted_free rfl, fun ev ec ef hev => ?_⟩
        have e12 : ev (.tmp 12) = .pointer (some ⟨w4.heap.size + 1, 0, none⟩) := hev 12 _ ((hl.2 12 (by kernel_rfl)).trans (by kernel_rfl))
        clear hd hl hev
        have x0' := (b12.out.up hJ).two.1
        have x1' := (b12.out.up hJ).two.2.1
        simp only [World.size_alloc] at x0' x1'
        replace hJ := Lib.hid hJ
        go_simp
        exact hn _ _ (Below.refl _ _) rfl
      · intro y W next hl hJ hd hn
        refine Or.inl ⟨wanted_free rfl, fun ev ec ef hev => ?_⟩
        have e12 : ev (.tmp 12) = .pointer (some ⟨w4.heap.size + 1, 0, none⟩) := hev 12 _ ((hl.2 12 (by kernel_rfl)).trans (by kernel_rfl))
        clear hd hl hev
        have x0' := (b12.out.up hJ).two.1
        have x1' := (b12.out.up hJ).two.2.1
        simp only [World.size_alloc] at x0' x1'
        replace hJ := Lib.hid hJ
        go_simp
        exact hn _ _ (Below.refl _ _) rfl
    · cases sx
      · intro y W next hl hJ hd hn
        refine Or.inl ⟨wanted_free rfl, fun ev ec ef hev => ?_⟩
        have e123 : ev (.tmp 123) =  (.agg #[.string x, .slice A5 xl.length k5]) := hev 123 _ ((hl.1 0 123 (by kernel_rfl) (by kernel_rfl)).trans (congrArg some (show y 0 =  (.agg #[.string x, .slice A5 xl.length k5]) from hd 0 (by kernel_rfl))))
        have e124 : ev (.tmp 124) =  (.agg #[.string y9, .slice A6 yl.length k6]) := hev 124 _ ((hl.1 1 124 (by kernel_rfl) (by kernel_rfl)).trans (congrArg some (show y 1 =  (.agg #[.string y9, .slice A6 yl.length k6]) from hd 1 (by kernel_rfl))))
        clear hd hl hev
        replace hJ := Lib.hid hJ
        go_simp
        refine (LookEnd.as hsx.out (implSameBut_any x y9 _ _ xl yl 15 W (by omega) (by omega) (ix.out.below hJ.out) (iy.out.below hJ.out))).mono ?_
        rintro e w' ⟨rfl, hb⟩
        exact ⟨_, rfl, hn _ _ hb rfl⟩
      · intro y W next hl hJ hd hn
        refine Or.inl ⟨wanted_free rfl, fun ev ec ef hev => ?_⟩
        have e123 : ev (.tmp 123) =  (.agg #[.string x, .slice A5 xl.length k5]) := hev 123 _ ((hl.1 0 123 (by kernel_rfl) (by kernel_rfl)).trans (congrArg some (show y 0 =  (.agg #[.string x, .slice A5 xl.length k5]) from hd 0 (by kernel_rfl))))
        have e124 : ev (.tmp 124) =  (.agg #[.string y9, .slice A6 yl.length k6]) := hev 124 _ ((hl.1 1 124 (by kernel_rfl) (by kernel_rfl)).trans (congrArg some (show y 1 =  (.agg #[.string y9, .slice A6 yl.length k6]) from hd 1 (by kernel_rfl))))
        clear hd hl hev
        replace hJ := Lib.hid hJ
        go_simp
        refine (LookEnd.as hsx.out (implSameBut_any x y9 _ _ xl yl 15 W (by omega) (by omega) (ix.out.below hJ.out) (iy.out.below hJ.out))).mono ?_
        rintro e w' ⟨rfl, hb⟩
        exact ⟨_, rfl, hn _ _ hb rfl⟩
    · cases sx
      · intro y W next hl hJ hd hn
        refine Or.inl ⟨wanted_free rfl, fun ev ec ef hev => ?_⟩
        have e125 : ev (.tmp 125) =  (.bool false) := hev 125 _ ((hl.1 2 125 (by kernel_rfl) (by kernel_rfl)).trans (congrArg some (show y 2 =  (.bool false) from hd 2 (by kernel_rfl))))
        clear hd hl hev
        replace hJ := Lib.hid hJ
        go_simp
        exact hn _ _ (Below.refl _ _) rfl
      · intro y W next hl hJ hd hn
        refine Or.inl ⟨wanted_free rfl, fun ev ec ef hev => ?_⟩
        have e125 : ev (.tmp 125) =  (.bool true) := hev 125 _ ((hl.1 2 125 (by kernel_rfl) (by kernel_rfl)).trans (congrArg some (show y 2 =  (.bool true) from hd 2 (by kernel_rfl))))
        clear hd hl hev
        replace hJ := Lib.hid hJ
        go_simp
        exact hn _ _ (Below.refl _ _) rfl
    · cases sx
      · intro y W next hl hJ hd hn
        exact Or.inr ⟨wanted_not (j := 3) (d := 126) rfl rfl rfl ((hl.1 3 126 (by kernel_rfl) (by kernel_rfl)).trans (congrArg some (show y 3 = .bool false from hd 3 (by kernel_rfl)))), hn _ _ (Below.refl _ _) trivial⟩
      · intro y W next hl hJ hd hn
        refine Or.inl ⟨wanted_of (j := 3) (d := 126) rfl rfl rfl ((hl.1 3 126 (by kernel_rfl) (by kernel_rfl)).trans (congrArg some (show y 3 = .bool true from hd 3 (by kernel_rfl)))), fun ev ec ef hev => ?_⟩
        have e11 : ev (.tmp 11) = .pointer (some ⟨w4.heap.size, 0, none⟩) := hev 11 _ ((hl.2 11 (by kernel_rfl)).trans (by kernel_rfl))
        clear hd hl hev
        have x0' := (b11.out.up hJ).two.1
        have x1' := (b11.out.up hJ).two.2.1
        replace hJ := Lib.hid hJ
        go_simp
        exact hn _ _ (Below.refl _ _) rfl
    · cases sx
      · intro y W next hl hJ hd hn
        exact Or.inr ⟨wanted_not (j := 3) (d := 126) rfl rfl rfl ((hl.1 3 126 (by kernel_rfl) (by kernel_rfl)).trans (congrArg some (show y 3 = .bool false from hd 3 (by kernel_rfl)))), hn _ _ (Below.refl _ _) trivial⟩
      · intro y W next hl hJ hd hn
        refine Or.inl ⟨wanted_of (j := 3) (d := 126) rfl rfl rfl ((hl.1 3 126 (by kernel_rfl) (by kernel_rfl)).trans (congrArg some (show y 3 = .bool true from hd 3 (by kernel_rfl)))), fun ev ec ef hev => ?_⟩
        have e127 : ev (.tmp 127) =  (.agg #[.string x, .slice A5 xl.length k5]) := hev 127 _ ((hl.1 4 127 (by kernel_rfl) (by kernel_rfl)).trans (congrArg some (show y 4 =  (.agg #[.string x, .slice A5 xl.length k5]) from hd 4 (by kernel_rfl))))
        clear hd hl hev
        replace hJ := Lib.hid hJ
        go_simp
        refine (implRedact_any x _ xl W (by omega) (ix.out.below hJ.out)).mono ?_
        rintro e w' ⟨rfl, hb⟩
        exact ⟨_, rfl, hn _ _ hb rfl⟩
    · cases sx
      · intro y W next hl hJ hd hn
        exact Or.inr ⟨wanted_not (j := 3) (d := 126) rfl rfl rfl ((hl.1 3 126 (by kernel_rfl) (by kernel_rfl)).trans (congrArg some (show y 3 = .bool false from hd 3 (by kernel_rfl)))), hn _ _ (Below.refl _ _) trivial⟩
      · intro y W next hl hJ hd hn
        refine Or.inl ⟨wanted_of (j := 3) (d := 126) rfl rfl rfl ((hl.1 3 126 (by kernel_rfl) (by kernel_rfl)).trans (congrArg some (show y 3 = .bool true from hd 3 (by kernel_rfl)))), fun ev ec ef hev => ?_⟩
        have e12 : ev (.tmp 12) = .pointer (some ⟨w4.heap.size + 1, 0, none⟩) := hev 12 _ ((hl.2 12 (by kernel_rfl)).trans (by kernel_rfl))
        clear hd hl hev
        have x0' := (b12.out.up hJ).two.1
        have x1' := (b12.out.up hJ).two.2.1
        simp only [World.size_alloc] at x0' x1'
        replace hJ := Lib.hid hJ
        go_simp
        exact hn _ _ (Below.refl _ _) rfl
    · cases sx
      · intro y W next hl hJ hd hn
        exact Or.inr ⟨wanted_not (j := 3) (d := 126) rfl rfl rfl ((hl.1 3 126 (by kernel_rfl) (by kernel_rfl)).trans (congrArg some (show y 3 = .bool false from hd 3 (by kernel_rfl)))), hn _ _ (Below.refl _ _) trivial⟩
      · intro y W next hl hJ hd hn
        refine Or.inl ⟨wanted_of (j := 3) (d := 126) rfl rfl rfl ((hl.1 3 126 (by kernel_rfl) (by kernel_rfl)).trans (congrArg some (show y 3 = .bool true from hd 3 (by kernel_rfl)))), fun ev ec ef hev => ?_⟩
        have e129 : ev (.tmp 129) =  (.agg #[.string y9, .slice A6 yl.length k6]) := hev 129 _ ((hl.1 6 129 (by kernel_rfl) (by kernel_rfl)).trans (congrArg some (show y 6 =  (.agg #[.string y9, .slice A6 yl.length k6]) from hd 6 (by kernel_rfl))))
        clear hd hl hev
        replace hJ := Lib.hid hJ
        go_simp
        refine (implRedact_any y9 _ yl W (by omega) (iy.out.below hJ.out)).mono ?_
        rintro e w' ⟨rfl, hb⟩
        exact ⟨_, rfl, hn _ _ hb rfl⟩
    · cases sx
      · intro y W next hl hJ hd hn
        exact Or.inr ⟨wanted_not (j := 3) (d := 126) rfl rfl rfl ((hl.1 3 126 (by kernel_rfl) (by kernel_rfl)).trans (congrArg some (show y 3 = .bool false from hd 3 (by kernel_rfl)))), hn _ _ (Below.refl _ _) trivial⟩
      · intro y W next hl hJ hd hn
        refine Or.inl ⟨wanted_of (j := 3) (d := 126) rfl rfl rfl ((hl.1 3 126 (by kernel_rfl) (by kernel_rfl)).trans (congrArg some (show y 3 = .bool true from hd 3 (by kernel_rfl)))), fun ev ec ef hev => ?_⟩
        have e128 : ev (.tmp 128) =  (.string (redT x xl)) := hev 128 _ ((hl.1 5 128 (by kernel_rfl) (by kernel_rfl)).trans (congrArg some (show y 5 =  (.string (redT x xl)) from hd 5 (by kernel_rfl))))
        have e130 : ev (.tmp 130) =  (.string (redT y9 yl)) := hev 130 _ ((hl.1 7 130 (by kernel_rfl) (by kernel_rfl)).trans (congrArg some (show y 7 =  (.string (redT y9 yl)) from hd 7 (by kernel_rfl))))
        clear hd hl hev
        have hq := redT_same hsx.out.symm
        rw [← hq] at e130
        replace hJ := Lib.hid hJ
        go_simp
        exact hn _ _ (Below.refl _ _) rfl
    · cases sx
      · intro y W next hl hJ hd hn
        refine Or.inl ⟨wanted_free rfl, fun ev ec ef hev => ?_⟩
        have e126 : ev (.tmp 126) =  (.bool false) := hev 126 _ ((hl.1 3 126 (by kernel_rfl) (by kernel_rfl)).trans (congrArg some (show y 3 =  (.bool false) from hd 3 (by kernel_rfl))))
        have e131 := hev 131 _ (hl.1 8 131 (by kernel_rfl) (by kernel_rfl))
        clear hd hl hev
        replace hJ := Lib.hid hJ
        go_simp
        exact hn _ _ (Below.refl _ _) rfl
      · intro y W next hl hJ hd hn
        refine Or.inl ⟨wanted_free rfl, fun ev ec ef hev => ?_⟩
        have e126 : ev (.tmp 126) =  (.bool true) := hev 126 _ ((hl.1 3 126 (by kernel_rfl) (by kernel_rfl)).trans (congrArg some (show y 3 =  (.bool true) from hd 3 (by kernel_rfl))))
        have e131 : ev (.tmp 131) =  (.bool false) := hev 131 _ ((hl.1 8 131 (by kernel_rfl) (by kernel_rfl)).trans (congrArg some (show y 8 =  (.bool false) from hd 8 (by kernel_rfl))))
        clear hd hl hev
        replace hJ := Lib.hid hJ
        go_simp
        exact hn _ _ (Below.refl _ _) rfl
    · intro y2 w8 hB hd
      have e9 : y2 9 = .bool false := by cases sx <;> exact hd 9 (by decide)
      clear hd
      simp only [lay_cons, lay_nil]
      simp only [Act.put, List.setIfInBounds_toArray]
      simp only [List.set_cons_succ, List.set_cons_zero]
      replace hW := Lib.hid (Below.then_ hW.out hB (Nat.le_refl _))
      replace b5 := Lib.hid (b5.out.up hB)
      replace b6 := Lib.hid (b6.out.up hB)
      replace b7 := Lib.hid (b7.out.up hB)
      replace b8 := Lib.hid (b8.out.up hB)
      replace b11 := Lib.hid (b11.out.up hB)
      replace b12 := Lib.hid (b12.out.up hB)
      replace ia := Lib.hid (ia.out.below hB)
      replace ib := Lib.hid (ib.out.below hB)
      replace ij := Lib.hid (ij.out.below hB)
      replace ic := Lib.hid (ic.out.below hB)
      replace ix := Lib.hid (ix.out.below hB)
      replace iy := Lib.hid (iy.out.below hB)
      clear hB
      rw [e9]
      clear e9
      obtain ⟨b50, b51, -, -⟩ := b5.out.two; have b5l := b5.out.lt
      obtain ⟨b60, b61, -, -⟩ := b6.out.two; have b6l := b6.out.lt
      obtain ⟨b70, b71, b72, -, -, -⟩ := b7.out.three; have b7l := b7.out.lt
      obtain ⟨b80, b81, -, -⟩ := b8.out.two; have b8l := b8.out.lt
      obtain ⟨b110, b111, -, -⟩ := b11.out.two; have b11l := b11.out.lt
      obtain ⟨b120, b121, -, -⟩ := b12.out.two; have b12l := b12.out.lt
      cases lr
      · have hjc : ¬ jc = 0 := fun h => by
          have h2 := join_right (show (joinR t s l m).c = 0 by rw [← hR.out]; exact h)
          rw [← hlr.out] at h2
          exact absurd h2.1 (by simp)
        have hjc2 : (jc != 0) = true := by simpa using hjc
        go_wp2_with (go_at_call 32; refine (LookEnd.as hlr.out (specLabRight_any t _ l _ (by omega) ia.out)).mono ?_; rintro e21 w21 ⟨rfl, hb21⟩; replace hW := Lib.hid (Below.then_ hW.out hb21 (Nat.le_refl _)); replace b5 := Lib.hid (b5.out.up hb21); replace b6 := Lib.hid (b6.out.up hb21); replace b7 := Lib.hid (b7.out.up hb21); replace b8 := Lib.hid (b8.out.up hb21); replace b11 := Lib.hid (b11.out.up hb21); replace b12 := Lib.hid (b12.out.up hb21); replace ia := Lib.hid (ia.out.below hb21); replace ib := Lib.hid (ib.out.below hb21); replace ij := Lib.hid (ij.out.below hb21); replace ic := Lib.hid (ic.out.below hb21); replace ix := Lib.hid (ix.out.below hb21); replace iy := Lib.hid (iy.out.below hb21); clear b50 b51 b5l; obtain ⟨b50, b51, -, -⟩ := b5.out.two; have b5l := b5.out.lt; clear b60 b61 b6l; obtain ⟨b60, b61, -, -⟩ := b6.out.two; have b6l := b6.out.lt; clear b70 b71 b72 b7l; obtain ⟨b70, b71, b72, -, -, -⟩ := b7.out.three; have b7l := b7.out.lt; clear b80 b81 b8l; obtain ⟨b80, b81, -, -⟩ := b8.out.two; have b8l := b8.out.lt; clear b110 b111 b11l; obtain ⟨b110, b111, -, -⟩ := b11.out.two; have b11l := b11.out.lt; clear b120 b121 b12l; obtain ⟨b120, b121, -, -⟩ := b12.out.two; have b12l := b12.out.lt; have z21 := Lib.hid (show w8.heap.size ≤ w21.heap.size from Nat.le_trans (Nat.le_refl _) hb21.size); replace hb21 := Lib.hid hb21)
        go_ret
        exact ⟨rfl, hW.out⟩
      · have hlab : labB t l = true := hlr.out.symm
        obtain ⟨hl200, hlt0, hlm⟩ := labB_all3 hlab
        have hrs : r.size = t.size := by rw [hr.out]; exact redT_len hlab
        have hrk := Lib.hid (fun (i : Nat) (h1 : i < l.length) (h2 : i < t.size) (h3 : i < r.size) => (show r[i] = if l[i] = 0 then t[i] else 42 from by have e := hr.out; subst e; exact redT_at hlab i h1 h2 h3))
        replace hrs := Lib.hid hrs
        replace hlt0 := Lib.hid hlt0
        replace hlm := Lib.hid hlm
        have hjt := Lib.hid (fun h : jc = 0 => (show jt = (joinR t s l m).t ∧ jl = (joinR t s l m).l ∧ (joinR t s l m).c = 0 from by rw [← hR.out]; exact ⟨rfl, rfl, h⟩))
        go_wp2_with (go_at_call 32; refine (LookEnd.as hlr.out (specLabRight_any t _ l _ (by omega) ia.out)).mono ?_; rintro e21 w21 ⟨rfl, hb21⟩; replace hW := Lib.hid (Below.then_ hW.out hb21 (Nat.le_refl _)); replace b5 := Lib.hid (b5.out.up hb21); replace b6 := Lib.hid (b6.out.up hb21); replace b7 := Lib.hid (b7.out.up hb21); replace b8 := Lib.hid (b8.out.up hb21); replace b11 := Lib.hid (b11.out.up hb21); replace b12 := Lib.hid (b12.out.up hb21); replace ia := Lib.hid (ia.out.below hb21); replace ib := Lib.hid (ib.out.below hb21); replace ij := Lib.hid (ij.out.below hb21); replace ic := Lib.hid (ic.out.below hb21); replace ix := Lib.hid (ix.out.below hb21); replace iy := Lib.hid (iy.out.below hb21); clear b50 b51 b5l; obtain ⟨b50, b51, -, -⟩ := b5.out.two; have b5l := b5.out.lt; clear b60 b61 b6l; obtain ⟨b60, b61, -, -⟩ := b6.out.two; have b6l := b6.out.lt; clear b70 b71 b72 b7l; obtain ⟨b70, b71, b72, -, -, -⟩ := b7.out.three; have b7l := b7.out.lt; clear b80 b81 b8l; obtain ⟨b80, b81, -, -⟩ := b8.out.two; have b8l := b8.out.lt; clear b110 b111 b11l; obtain ⟨b110, b111, -, -⟩ := b11.out.two; have b11l := b11.out.lt; clear b120 b121 b12l; obtain ⟨b120, b121, -, -⟩ := b12.out.two; have b12l := b12.out.lt; have z21 := Lib.hid (show w8.heap.size ≤ w21.heap.size from Nat.le_trans (Nat.le_refl _) hb21.size); replace hb21 := Lib.hid hb21)
        go_loopw [17] (fun v wr => ∃ k : Nat, v = .int .i64 (k : Int) ∧ k ≤ r.size ∧ Below w21.heap.size w21 wr) (fun v _ => r.size - (intOf v).toNat)
        case atStart => exact ⟨0, rfl, Nat.zero_le _, Below.refl _ _⟩
        case round =>
          obtain ⟨k, rfl, hk, hB⟩ := hrel
          have hB0 := Lib.hid hB
          clear b50 b51 b60 b61 b70 b71 b72 b80 b81 b110 b111 b120 b121
          replace hW := Lib.hid (Below.then_ hW.out hB (Nat.le_refl _))
          replace b5 := Lib.hid (b5.out.up hB)
          replace b6 := Lib.hid (b6.out.up hB)
          replace b7 := Lib.hid (b7.out.up hB)
          replace b8 := Lib.hid (b8.out.up hB)
          replace b11 := Lib.hid (b11.out.up hB)
          replace b12 := Lib.hid (b12.out.up hB)
          replace ia := Lib.hid (ia.out.below hB)
          replace ib := Lib.hid (ib.out.below hB)
          replace ij := Lib.hid (ij.out.below hB)
          replace ic := Lib.hid (ic.out.below hB)
          replace ix := Lib.hid (ix.out.below hB)
          replace iy := Lib.hid (iy.out.below hB)
          clear hB
          obtain ⟨b50, b51, -, -⟩ := b5.out.two; have b5l := b5.out.lt
          obtain ⟨b60, b61, -, -⟩ := b6.out.two; have b6l := b6.out.lt
          obtain ⟨b70, b71, b72, -, -, -⟩ := b7.out.three; have b7l := b7.out.lt
          obtain ⟨b80, b81, -, -⟩ := b8.out.two; have b8l := b8.out.lt
          obtain ⟨b110, b111, -, -⟩ := b11.out.two; have b11l := b11.out.lt
          obtain ⟨b120, b121, -, -⟩ := b12.out.two; have b12l := b12.out.lt
          by_cases hlt : k < r.size
          · have hlt' : (k : Int) < (r.size : Int) := by omega
            go_wp2_with fail
            have hrs2 := hrs.out
            have hlt2 := hlt0.out
            have hkt : k < t.size := by omega
            have hkl : k < l.length := by omega
            have hkl' : (k : Int) < (l.length : Int) := by omega
            have hrk2 := hrk.out k hkl hkt hlt
            obtain ⟨c0, hc0⟩ : ∃ c, l[k] = c := ⟨_, rfl⟩
            rw [hc0] at hrk2
            obtain ⟨bb, off, rfl, hck⟩ : ∃ bb off, A1 = some ⟨bb, off, none⟩ ∧ wr.cell? ⟨bb, off + k, none⟩ = some (.int .i64 c0) := by
              obtain ⟨_, A', cap', eA, _, hcell⟩ := ia.out
              obtain ⟨bb, off, e, h⟩ := hcell (by omega)
              injection eA with e1 e2 e3
              exact ⟨bb, off, e1.trans e, by rw [h k hkl, hc0]⟩
            have hck2 := Lib.hid hck
            clear hck
            by_cases h0 : c0 = 0
            · have hqt : r[k].toNat = t[k].toNat := by rw [hrk2, if_pos h0]
              obtain ⟨q, hq⟩ : ∃ q, t[k].toNat = q := ⟨_, rfl⟩
              rw [hq] at hqt
              have h0' : (c0 == 0) = true := by simpa using h0
              have h0'' : (c0 != 0) = false := by simpa using h0
              clear hrk2 h0 hc0 hlt2 hrs2
              refine wp_region_known [(.is (.pointer (some ⟨w1.heap.size, 1, none⟩))), (.is (.slice (some ⟨bb, off, none⟩) l.length k1)), (.is (.int .i64 (k : Int))), (.is (.pointer (some ⟨bb, off + k, none⟩))), (.is (.int .i64 c0)), (.is (.bool true)), (.is (.bool true)), (.is (.string r)), (.is (.int .i64 (k : Int))), (.is (.int .u8 (q : Int))), (.is (.pointer (some ⟨w1.heap.size, 0, none⟩))), (.is (.string t)), (.is (.int .i64 (k : Int))), (.is (.int .u8 (q : Int))), (.is (.bool false)), (.is (.bool false)), (.is (.bool false)), (.is (.pointer (some ⟨w1.heap.size, 1, none⟩))), (.is (.slice (some ⟨bb, off, none⟩) l.length k1)), (.is (.int .i64 (k : Int))), (.is (.pointer (some ⟨bb, off + k, none⟩))), (.is (.int .i64 c0)), (.is (.bool false)), (.is (.bool false)), .any, .any, .any, .any, (.is (.bool false)), (.is (.bool false))] (by kernel_rfl) (by kernel_rfl) (by kernel_rfl) ⟨?_, ?_, ?_, ?_, ?_, ?_, ?_, ?_, ?_, ?_, ?_, ?_, ?_, ?_, ?_, ?_, ?_, ?_, ?_, ?_, ?_, ?_, ?_, ?_, ?_, ?_, ?_, ?_, ?_, ?_, trivial⟩ ?_
              · intro y W next hl hJ hd hn
                refine Or.inl ⟨wanted_free rfl, fun ev ec ef hev => ?_⟩
                have e5 : ev (.tmp 5) = .pointer (some ⟨w1.heap.size, 0, none⟩) := hev 5 _ ((hl.2 5 (by kernel_rfl)).trans (by kernel_rfl))
                clear hd hl hev
                replace hJ := Lib.hid hJ
                go_simp
                exact hn _ _ (Below.refl _ _) rfl
              · intro y W next hl hJ hd hn
                refine Or.inl ⟨wanted_free rfl, fun ev ec ef hev => ?_⟩
                have e141 : ev (.tmp 141) =  (.pointer (some ⟨w1.heap.size, 1, none⟩)) := hev 141 _ ((hl.1 0 141 (by kernel_rfl) (by kernel_rfl)).trans (congrArg some (show y 0 =  (.pointer (some ⟨w1.heap.size, 1, none⟩)) from hd 0 (by kernel_rfl))))
                clear hd hl hev
                have x1' := (b5.out.up hJ).two.2.1
                replace hJ := Lib.hid hJ
                go_simp
                exact hn _ _ (Below.refl _ _) rfl
              · intro y W next hl hJ hd hn
                refine Or.inl ⟨wanted_free rfl, fun ev ec ef hev => ?_⟩
                have e17 : ev (.tmp 17) = .int .i64 (k : Int) := hev 17 _ ((hl.2 17 (by kernel_rfl)).trans (by kernel_rfl))
                clear hd hl hev
                replace hJ := Lib.hid hJ
                go_simp
                exact hn _ _ (Below.refl _ _) rfl
              · intro y W next hl hJ hd hn
                refine Or.inl ⟨wanted_free rfl, fun ev ec ef hev => ?_⟩
                have e142 : ev (.tmp 142) =  (.slice (some ⟨bb, off, none⟩) l.length k1) := hev 142 _ ((hl.1 1 142 (by kernel_rfl) (by kernel_rfl)).trans (congrArg some (show y 1 =  (.slice (some ⟨bb, off, none⟩) l.length k1) from hd 1 (by kernel_rfl))))
                have e143 : ev (.tmp 143) =  (.int .i64 (k : Int)) := hev 143 _ ((hl.1 2 143 (by kernel_rfl) (by kernel_rfl)).trans (congrArg some (show y 2 =  (.int .i64 (k : Int)) from hd 2 (by kernel_rfl))))
                clear hd hl hev
                replace hJ := Lib.hid hJ
                go_simp
                exact hn _ _ (Below.refl _ _) rfl
              · intro y W next hl hJ hd hn
                refine Or.inl ⟨wanted_free rfl, fun ev ec ef hev => ?_⟩
                have e144 : ev (.tmp 144) =  (.pointer (some ⟨bb, off + k, none⟩)) := hev 144 _ ((hl.1 3 144 (by kernel_rfl) (by kernel_rfl)).trans (congrArg some (show y 3 =  (.pointer (some ⟨bb, off + k, none⟩)) from hd 3 (by kernel_rfl))))
                clear hd hl hev
                have x1' := cell_below hJ (Nat.le_refl _) _ _ hck2.out
                replace hJ := Lib.hid hJ
                go_simp
                exact hn _ _ (Below.refl _ _) rfl
              · intro y W next hl hJ hd hn
                refine Or.inl ⟨wanted_free rfl, fun ev ec ef hev => ?_⟩
                have e145 : ev (.tmp 145) =  (.int .i64 c0) := hev 145 _ ((hl.1 4 145 (by kernel_rfl) (by kernel_rfl)).trans (congrArg some (show y 4 =  (.int .i64 c0) from hd 4 (by kernel_rfl))))
                clear hd hl hev
                replace hJ := Lib.hid hJ
                go_simp
                exact hn _ _ (Below.refl _ _) rfl
              · intro y W next hl hJ hd hn
                refine Or.inl ⟨wanted_free rfl, fun ev ec ef hev => ?_⟩
                have e146 : ev (.tmp 146) =  (.bool true) := hev 146 _ ((hl.1 5 146 (by kernel_rfl) (by kernel_rfl)).trans (congrArg some (show y 5 =  (.bool true) from hd 5 (by kernel_rfl))))
                clear hd hl hev
                replace hJ := Lib.hid hJ
                go_simp
                exact hn _ _ (Below.refl _ _) rfl
              · intro y W next hl hJ hd hn
                refine Or.inl ⟨wanted_of (j := 6) (d := 147) rfl rfl rfl ((hl.1 6 147 (by kernel_rfl) (by kernel_rfl)).trans (congrArg some (show y 6 = .bool true from hd 6 (by kernel_rfl)))), fun ev ec ef hev => ?_⟩
                have e16 : ev (.tmp 16) = .string r := hev 16 _ ((hl.2 16 (by kernel_rfl)).trans (by kernel_rfl))
                clear hd hl hev
                replace hJ := Lib.hid hJ
                go_simp
                exact hn _ _ (Below.refl _ _) rfl
              · intro y W next hl hJ hd hn
                refine Or.inl ⟨wanted_of (j := 6) (d := 147) rfl rfl rfl ((hl.1 6 147 (by kernel_rfl) (by kernel_rfl)).trans (congrArg some (show y 6 = .bool true from hd 6 (by kernel_rfl)))), fun ev ec ef hev => ?_⟩
                have e17 : ev (.tmp 17) = .int .i64 (k : Int) := hev 17 _ ((hl.2 17 (by kernel_rfl)).trans (by kernel_rfl))
                clear hd hl hev
                replace hJ := Lib.hid hJ
                go_simp
                exact hn _ _ (Below.refl _ _) rfl
              · intro y W next hl hJ hd hn
                refine Or.inl ⟨wanted_of (j := 6) (d := 147) rfl rfl rfl ((hl.1 6 147 (by kernel_rfl) (by kernel_rfl)).trans (congrArg some (show y 6 = .bool true from hd 6 (by kernel_rfl)))), fun ev ec ef hev => ?_⟩
                have e148 : ev (.tmp 148) =  (.string r) := hev 148 _ ((hl.1 7 148 (by kernel_rfl) (by kernel_rfl)).trans (congrArg some (show y 7 =  (.string r) from hd 7 (by kernel_rfl))))
                have e149 : ev (.tmp 149) =  (.int .i64 (k : Int)) := hev 149 _ ((hl.1 8 149 (by kernel_rfl) (by kernel_rfl)).trans (congrArg some (show y 8 =  (.int .i64 (k : Int)) from hd 8 (by kernel_rfl))))
                clear hd hl hev
                replace hJ := Lib.hid hJ
                go_simp
                exact hn _ _ (Below.refl _ _) rfl
              · intro y W next hl hJ hd hn
                refine Or.inl ⟨wanted_of (j := 6) (d := 147) rfl rfl rfl ((hl.1 6 147 (by kernel_rfl) (by kernel_rfl)).trans (congrArg some (show y 6 = .bool true from hd 6 (by kernel_rfl)))), fun ev ec ef hev => ?_⟩
                have e5 : ev (.tmp 5) = .pointer (some ⟨w1.heap.size, 0, none⟩) := hev 5 _ ((hl.2 5 (by kernel_rfl)).trans (by kernel_rfl))
                clear hd hl hev
                replace hJ := Lib.hid hJ
                go_simp
                exact hn _ _ (Below.refl _ _) rfl
              · intro y W next hl hJ hd hn
                refine Or.inl ⟨wanted_of (j := 6) (d := 147) rfl rfl rfl ((hl.1 6 147 (by kernel_rfl) (by kernel_rfl)).trans (congrArg some (show y 6 = .bool true from hd 6 (by kernel_rfl)))), fun ev ec ef hev => ?_⟩
                have e151 : ev (.tmp 151) =  (.pointer (some ⟨w1.heap.size, 0, none⟩)) := hev 151 _ ((hl.1 10 151 (by kernel_rfl) (by kernel_rfl)).trans (congrArg some (show y 10 =  (.pointer (some ⟨w1.heap.size, 0, none⟩)) from hd 10 (by kernel_rfl))))
                clear hd hl hev
                have x0' := (b5.out.up hJ).two.1
                replace hJ := Lib.hid hJ
                go_simp
                exact hn _ _ (Below.refl _ _) rfl
              · intro y W next hl hJ hd hn
                refine Or.inl ⟨wanted_of (j := 6) (d := 147) rfl rfl rfl ((hl.1 6 147 (by kernel_rfl) (by kernel_rfl)).trans (congrArg some (show y 6 = .bool true from hd 6 (by kernel_rfl)))), fun ev ec ef hev => ?_⟩
                have e17 : ev (.tmp 17) = .int .i64 (k : Int) := hev 17 _ ((hl.2 17 (by kernel_rfl)).trans (by kernel_rfl))
                clear hd hl hev
                replace hJ := Lib.hid hJ
                go_simp
                exact hn _ _ (Below.refl _ _) rfl
              · intro y W next hl hJ hd hn
                refine Or.inl ⟨wanted_of (j := 6) (d := 147) rfl rfl rfl ((hl.1 6 147 (by kernel_rfl) (by kernel_rfl)).trans (congrArg some (show y 6 = .bool true from hd 6 (by kernel_rfl)))), fun ev ec ef hev => ?_⟩
                have e152 : ev (.tmp 152) =  (.string t) := hev 152 _ ((hl.1 11 152 (by kernel_rfl) (by kernel_rfl)).trans (congrArg some (show y 11 =  (.string t) from hd 11 (by kernel_rfl))))
                have e153 : ev (.tmp 153) =  (.int .i64 (k : Int)) := hev 153 _ ((hl.1 12 153 (by kernel_rfl) (by kernel_rfl)).trans (congrArg some (show y 12 =  (.int .i64 (k : Int)) from hd 12 (by kernel_rfl))))
                clear hd hl hev
                replace hJ := Lib.hid hJ
                go_simp
                exact hn _ _ (Below.refl _ _) rfl
              · intro y W next hl hJ hd hn
                refine Or.inl ⟨wanted_of (j := 6) (d := 147) rfl rfl rfl ((hl.1 6 147 (by kernel_rfl) (by kernel_rfl)).trans (congrArg some (show y 6 = .bool true from hd 6 (by kernel_rfl)))), fun ev ec ef hev => ?_⟩
                have e150 : ev (.tmp 150) =  (.int .u8 (q : Int)) := hev 150 _ ((hl.1 9 150 (by kernel_rfl) (by kernel_rfl)).trans (congrArg some (show y 9 =  (.int .u8 (q : Int)) from hd 9 (by kernel_rfl))))
                have e154 : ev (.tmp 154) =  (.int .u8 (q : Int)) := hev 154 _ ((hl.1 13 154 (by kernel_rfl) (by kernel_rfl)).trans (congrArg some (show y 13 =  (.int .u8 (q : Int)) from hd 13 (by kernel_rfl))))
                clear hd hl hev
                replace hJ := Lib.hid hJ
                go_simp
                exact hn _ _ (Below.refl _ _) rfl
              · intro y W next hl hJ hd hn
                refine Or.inl ⟨wanted_free rfl, fun ev ec ef hev => ?_⟩
                have e147 : ev (.tmp 147) =  (.bool true) := hev 147 _ ((hl.1 6 147 (by kernel_rfl) (by kernel_rfl)).trans (congrArg some (show y 6 =  (.bool true) from hd 6 (by kernel_rfl))))
                have e155 : ev (.tmp 155) =  (.bool false) := hev 155 _ ((hl.1 14 155 (by kernel_rfl) (by kernel_rfl)).trans (congrArg some (show y 14 =  (.bool false) from hd 14 (by kernel_rfl))))
                clear hd hl hev
                replace hJ := Lib.hid hJ
                go_simp
                exact hn _ _ (Below.refl _ _) rfl
              · intro y W next hl hJ hd hn
                refine Or.inl ⟨wanted_free rfl, fun ev ec ef hev => ?_⟩
                have e156 : ev (.tmp 156) =  (.bool false) := hev 156 _ ((hl.1 15 156 (by kernel_rfl) (by kernel_rfl)).trans (congrArg some (show y 15 =  (.bool false) from hd 15 (by kernel_rfl))))
                clear hd hl hev
                replace hJ := Lib.hid hJ
                go_simp
                exact hn _ _ (Below.refl _ _) rfl
              · intro y W next hl hJ hd hn
                refine Or.inl ⟨wanted_of (j := 16) (d := 157) rfl rfl rfl ((hl.1 16 157 (by kernel_rfl) (by kernel_rfl)).trans (congrArg some (show y 16 = .bool false from hd 16 (by kernel_rfl)))), fun ev ec ef hev => ?_⟩
                have e5 : ev (.tmp 5) = .pointer (some ⟨w1.heap.size, 0, none⟩) := hev 5 _ ((hl.2 5 (by kernel_rfl)).trans (by kernel_rfl))
                clear hd hl hev
                replace hJ := Lib.hid hJ
                go_simp
                exact hn _ _ (Below.refl _ _) rfl
              · intro y W next hl hJ hd hn
                refine Or.inl ⟨wanted_of (j := 16) (d := 157) rfl rfl rfl ((hl.1 16 157 (by kernel_rfl) (by kernel_rfl)).trans (congrArg some (show y 16 = .bool false from hd 16 (by kernel_rfl)))), fun ev ec ef hev => ?_⟩
                have e158 : ev (.tmp 158) =  (.pointer (some ⟨w1.heap.size, 1, none⟩)) := hev 158 _ ((hl.1 17 158 (by kernel_rfl) (by kernel_rfl)).trans (congrArg some (show y 17 =  (.pointer (some ⟨w1.heap.size, 1, none⟩)) from hd 17 (by kernel_rfl))))
                clear hd hl hev
                have x1' := (b5.out.up hJ).two.2.1
                replace hJ := Lib.hid hJ
                go_simp
                exact hn _ _ (Below.refl _ _) rfl
              · intro y W next hl hJ hd hn
                refine Or.inl ⟨wanted_of (j := 16) (d := 157) rfl rfl rfl ((hl.1 16 157 (by kernel_rfl) (by kernel_rfl)).trans (congrArg some (show y 16 = .bool false from hd 16 (by kernel_rfl)))), fun ev ec ef hev => ?_⟩
                have e17 : ev (.tmp 17) = .int .i64 (k : Int) := hev 17 _ ((hl.2 17 (by kernel_rfl)).trans (by kernel_rfl))
                clear hd hl hev
                replace hJ := Lib.hid hJ
                go_simp
                exact hn _ _ (Below.refl _ _) rfl
              · intro y W next hl hJ hd hn
                refine Or.inl ⟨wanted_of (j := 16) (d := 157) rfl rfl rfl ((hl.1 16 157 (by kernel_rfl) (by kernel_rfl)).trans (congrArg some (show y 16 = .bool false from hd 16 (by kernel_rfl)))), fun ev ec ef hev => ?_⟩
                have e159 : ev (.tmp 159) =  (.slice (some ⟨bb, off, none⟩) l.length k1) := hev 159 _ ((hl.1 18 159 (by kernel_rfl) (by kernel_rfl)).trans (congrArg some (show y 18 =  (.slice (some ⟨bb, off, none⟩) l.length k1) from hd 18 (by kernel_rfl))))
                have e160 : ev (.tmp 160) =  (.int .i64 (k : Int)) := hev 160 _ ((hl.1 19 160 (by kernel_rfl) (by kernel_rfl)).trans (congrArg some (show y 19 =  (.int .i64 (k : Int)) from hd 19 (by kernel_rfl))))
                clear hd hl hev
                replace hJ := Lib.hid hJ
                go_simp
                exact hn _ _ (Below.refl _ _) rfl
              · intro y W next hl hJ hd hn
                refine Or.inl ⟨wanted_of (j := 16) (d := 157) rfl rfl rfl ((hl.1 16 157 (by kernel_rfl) (by kernel_rfl)).trans (congrArg some (show y 16 = .bool false from hd 16 (by kernel_rfl)))), fun ev ec ef hev => ?_⟩
                have e161 : ev (.tmp 161) =  (.pointer (some ⟨bb, off + k, none⟩)) := hev 161 _ ((hl.1 20 161 (by kernel_rfl) (by kernel_rfl)).trans (congrArg some (show y 20 =  (.pointer (some ⟨bb, off + k, none⟩)) from hd 20 (by kernel_rfl))))
                clear hd hl hev
                have x1' := cell_below hJ (Nat.le_refl _) _ _ hck2.out
                replace hJ := Lib.hid hJ
                go_simp
                exact hn _ _ (Below.refl _ _) rfl
              · intro y W next hl hJ hd hn
                refine Or.inl ⟨wanted_of (j := 16) (d := 157) rfl rfl rfl ((hl.1 16 157 (by kernel_rfl) (by kernel_rfl)).trans (congrArg some (show y 16 = .bool false from hd 16 (by kernel_rfl)))), fun ev ec ef hev => ?_⟩
                have e162 : ev (.tmp 162) =  (.int .i64 c0) := hev 162 _ ((hl.1 21 162 (by kernel_rfl) (by kernel_rfl)).trans (congrArg some (show y 21 =  (.int .i64 c0) from hd 21 (by kernel_rfl))))
                clear hd hl hev
                replace hJ := Lib.hid hJ
                go_simp
                exact hn _ _ (Below.refl _ _) rfl
              · intro y W next hl hJ hd hn
                refine Or.inl ⟨wanted_of (j := 16) (d := 157) rfl rfl rfl ((hl.1 16 157 (by kernel_rfl) (by kernel_rfl)).trans (congrArg some (show y 16 = .bool false from hd 16 (by kernel_rfl)))), fun ev ec ef hev => ?_⟩
                have e163 : ev (.tmp 163) =  (.bool false) := hev 163 _ ((hl.1 22 163 (by kernel_rfl) (by kernel_rfl)).trans (congrArg some (show y 22 =  (.bool false) from hd 22 (by kernel_rfl))))
                clear hd hl hev
                replace hJ := Lib.hid hJ
                go_simp
                exact hn _ _ (Below.refl _ _) rfl
              · intro y W next hl hJ hd hn
                exact Or.inr ⟨wanted_not (j := 23) (d := 164) rfl rfl rfl ((hl.1 23 164 (by kernel_rfl) (by kernel_rfl)).trans (congrArg some (show y 23 = .bool false from hd 23 (by kernel_rfl)))), hn _ _ (Below.refl _ _) trivial⟩
              · intro y W next hl hJ hd hn
                exact Or.inr ⟨wanted_not (j := 23) (d := 164) rfl rfl rfl ((hl.1 23 164 (by kernel_rfl) (by kernel_rfl)).trans (congrArg some (show y 23 = .bool false from hd 23 (by kernel_rfl)))), hn _ _ (Below.refl _ _) trivial⟩
              · intro y W next hl hJ hd hn
                exact Or.inr ⟨wanted_not (j := 23) (d := 164) rfl rfl rfl ((hl.1 23 164 (by kernel_rfl) (by kernel_rfl)).trans (congrArg some (show y 23 = .bool false from hd 23 (by kernel_rfl)))), hn _ _ (Below.refl _ _) trivial⟩
              · intro y W next hl hJ hd hn
                exact Or.inr ⟨wanted_not (j := 23) (d := 164) rfl rfl rfl ((hl.1 23 164 (by kernel_rfl) (by kernel_rfl)).trans (congrArg some (show y 23 = .bool false from hd 23 (by kernel_rfl)))), hn _ _ (Below.refl _ _) trivial⟩
              · intro y W next hl hJ hd hn
                refine Or.inl ⟨wanted_of (j := 16) (d := 157) rfl rfl rfl ((hl.1 16 157 (by kernel_rfl) (by kernel_rfl)).trans (congrArg some (show y 16 = .bool false from hd 16 (by kernel_rfl)))), fun ev ec ef hev => ?_⟩
                have e164 : ev (.tmp 164) =  (.bool false) := hev 164 _ ((hl.1 23 164 (by kernel_rfl) (by kernel_rfl)).trans (congrArg some (show y 23 =  (.bool false) from hd 23 (by kernel_rfl))))
                have e168 := hev 168 _ (hl.1 27 168 (by kernel_rfl) (by kernel_rfl))
                clear hd hl hev
                replace hJ := Lib.hid hJ
                go_simp
                exact hn _ _ (Below.refl _ _) rfl
              · intro y W next hl hJ hd hn
                refine Or.inl ⟨wanted_free rfl, fun ev ec ef hev => ?_⟩
                have e157 : ev (.tmp 157) =  (.bool false) := hev 157 _ ((hl.1 16 157 (by kernel_rfl) (by kernel_rfl)).trans (congrArg some (show y 16 =  (.bool false) from hd 16 (by kernel_rfl))))
                have e169 : ev (.tmp 169) =  (.bool false) := hev 169 _ ((hl.1 28 169 (by kernel_rfl) (by kernel_rfl)).trans (congrArg some (show y 28 =  (.bool false) from hd 28 (by kernel_rfl))))
                clear hd hl hev
                replace hJ := Lib.hid hJ
                go_simp
                exact hn _ _ (Below.refl _ _) rfl
              · intro y17 w17 hB hd
                have e29 : y17 29 = .bool false := hd 29 (by decide)
                clear hd
                simp only [lay_cons, lay_nil]
                simp only [Act.put, List.setIfInBounds_toArray]
                simp only [List.set_cons_succ, List.set_cons_zero]
                rw [e29]
                go_wp2
                exact ⟨⟨k + 1, congrArg (Value.int .i64) (by omega), hlt, Below.then_ hB0.out hB (Nat.le_refl _)⟩, by simp [intOf]; omega⟩
            · have hqt : r[k].toNat = 42 := by rw [hrk2, if_neg h0]; rfl
              have h0' : (c0 == 0) = false := by simpa using h0
              have h0'' : (c0 != 0) = true := by simpa using h0
              clear hrk2 h0 hc0 hlt2 hrs2
              refine wp_region_known [(.is (.pointer (some ⟨w1.heap.size, 1, none⟩))), (.is (.slice (some ⟨bb, off, none⟩) l.length k1)), (.is (.int .i64 (k : Int))), (.is (.pointer (some ⟨bb, off + k, none⟩))), (.is (.int .i64 c0)), (.is (.bool false)), (.is (.bool false)), .any, .any, .any, .any, .any, .any, .any, .any, (.is (.bool false)), (.is (.bool false)), (.is (.pointer (some ⟨w1.heap.size, 1, none⟩))), (.is (.slice (some ⟨bb, off, none⟩) l.length k1)), (.is (.int .i64 (k : Int))), (.is (.pointer (some ⟨bb, off + k, none⟩))), (.is (.int .i64 c0)), (.is (.bool true)), (.is (.bool true)), (.is (.string r)), (.is (.int .i64 (k : Int))), (.is (.int .u8 42)), (.is (.bool false)), (.is (.bool false)), (.is (.bool false))] (by kernel_rfl) (by kernel_rfl) (by kernel_rfl) ⟨?_, ?_, ?_, ?_, ?_, ?_, ?_, ?_, ?_, ?_, ?_, ?_, ?_, ?_, ?_, ?_, ?_, ?_, ?_, ?_, ?_, ?_, ?_, ?_, ?_, ?_, ?_, ?_, ?_, ?_, trivial⟩ ?_
              · intro y W next hl hJ hd hn
                refine Or.inl ⟨wanted_free rfl, fun ev ec ef hev => ?_⟩
                have e5 : ev (.tmp 5) = .pointer (some ⟨w1.heap.size, 0, none⟩) := hev 5 _ ((hl.2 5 (by kernel_rfl)).trans (by kernel_rfl))
                clear hd hl hev
                replace hJ := Lib.hid hJ
                go_simp
                exact hn _ _ (Below.refl _ _) rfl
              · intro y W next hl hJ hd hn
                refine Or.inl ⟨wanted_free rfl, fun ev ec ef hev => ?_⟩
                have e141 : ev (.tmp 141) =  (.pointer (some ⟨w1.heap.size, 1, none⟩)) := hev 141 _ ((hl.1 0 141 (by kernel_rfl) (by kernel_rfl)).trans (congrArg some (show y 0 =  (.pointer (some ⟨w1.heap.size, 1, none⟩)) from hd 0 (by kernel_rfl))))
                clear hd hl hev
                have x1' := (b5.out.up hJ).two.2.1
                replace hJ := Lib.hid hJ
                go_simp
                exact hn _ _ (Below.refl _ _) rfl
              · intro y W next hl hJ hd hn
                refine Or.inl ⟨wanted_free rfl, fun ev ec ef hev => ?_⟩
                have e17 : ev (.tmp 17) = .int .i64 (k : Int) := hev 17 _ ((hl.2 17 (by kernel_rfl)).trans (by kernel_rfl))
                clear hd hl hev
                replace hJ := Lib.hid hJ
                go_simp
                exact hn _ _ (Below.refl _ _) rfl
              · intro y W next hl hJ hd hn
                refine Or.inl ⟨wanted_free rfl, fun ev ec ef hev => ?_⟩
                have e142 : ev (.tmp 142) =  (.slice (some ⟨bb, off, none⟩) l.length k1) := hev 142 _ ((hl.1 1 142 (by kernel_rfl) (by kernel_rfl)).trans (congrArg some (show y 1 =  (.slice (some ⟨bb, off, none⟩) l.length k1) from hd 1 (by kernel_rfl))))
                have e143 : ev (.tmp 143) =  (.int .i64 (k : Int)) := hev 143 _ ((hl.1 2 143 (by kernel_rfl) (by kernel_rfl)).trans (congrArg some (show y 2 =  (.int .i64 (k : Int)) from hd 2 (by kernel_rfl))))
                clear hd hl hev
                replace hJ := Lib.hid hJ
                go_simp
                exact hn _ _ (Below.refl _ _) rfl
              · intro y W next hl hJ hd hn
                refine Or.inl ⟨wanted_free rfl, fun ev ec ef hev => ?_⟩
                have e144 : ev (.tmp 144) =  (.pointer (some ⟨bb, off + k, none⟩)) := hev 144 _ ((hl.1 3 144 (by kernel_rfl) (by kernel_rfl)).trans (congrArg some (show y 3 =  (.pointer (some ⟨bb, off + k, none⟩)) from hd 3 (by kernel_rfl))))
                clear hd hl hev
                have x1' := cell_below hJ (Nat.le_refl _) _ _ hck2.out
                replace hJ := Lib.hid hJ
                go_simp
                exact hn _ _ (Below.refl _ _) rfl
              · intro y W next hl hJ hd hn
                refine Or.inl ⟨wanted_free rfl, fun ev ec ef hev => ?_⟩
                have e145 : ev (.tmp 145) =  (.int .i64 c0) := hev 145 _ ((hl.1 4 145 (by kernel_rfl) (by kernel_rfl)).trans (congrArg some (show y 4 =  (.int .i64 c0) from hd 4 (by kernel_rfl))))
                clear hd hl hev
                replace hJ := Lib.hid hJ
                go_simp
                exact hn _ _ (Below.refl _ _) rfl
              · intro y W next hl hJ hd hn
                refine Or.inl ⟨wanted_free rfl, fun ev ec ef hev => ?_⟩
                have e146 : ev (.tmp 146) =  (.bool false) := hev 146 _ ((hl.1 5 146 (by kernel_rfl) (by kernel_rfl)).trans (congrArg some (show y 5 =  (.bool false) from hd 5 (by kernel_rfl))))
                clear hd hl hev
                replace hJ := Lib.hid hJ
                go_simp
                exact hn _ _ (Below.refl _ _) rfl
              · intro y W next hl hJ hd hn
                exact Or.inr ⟨wanted_not (j := 6) (d := 147) rfl rfl rfl ((hl.1 6 147 (by kernel_rfl) (by kernel_rfl)).trans (congrArg some (show y 6 = .bool false from hd 6 (by kernel_rfl)))), hn _ _ (Below.refl _ _) trivial⟩
              · intro y W next hl hJ hd hn
                exact Or.inr ⟨wanted_not (j := 6) (d := 147) rfl rfl rfl ((hl.1 6 147 (by kernel_rfl) (by kernel_rfl)).trans (congrArg some (show y 6 = .bool false from hd 6 (by kernel_rfl)))), hn _ _ (Below.refl _ _) trivial⟩
              · intro y W next hl hJ hd hn
                exact Or.inr ⟨wanted_not (j := 6) (d := 147) rfl rfl rfl ((hl.1 6 147 (by kernel_rfl) (by kernel_rfl)).trans (congrArg some (show y 6 = .bool false from hd 6 (by kernel_rfl)))), hn _ _ (Below.refl _ _) trivial⟩
              · intro y W next hl hJ hd hn
                exact Or.inr ⟨wanted_not (j := 6) (d := 147) rfl rfl rfl ((hl.1 6 147 (by kernel_rfl) (by kernel_rfl)).trans (congrArg some (show y 6 = .bool false from hd 6 (by kernel_rfl)))), hn _ _ (Below.refl _ _) trivial⟩
              · intro y W next hl hJ hd hn
                exact Or.inr ⟨wanted_not (j := 6) (d := 147) rfl rfl rfl ((hl.1 6 147 (by kernel_rfl) (by kernel_rfl)).trans (congrArg some (show y 6 = .bool false from hd 6 (by kernel_rfl)))), hn _ _ (Below.refl _ _) trivial⟩
              · intro y W next hl hJ hd hn
                exact Or.inr ⟨wanted_not (j := 6) (d := 147) rfl rfl rfl ((hl.1 6 147 (by kernel_rfl) (by kernel_rfl)).trans (congrArg some (show y 6 = .bool false from hd 6 (by kernel_rfl)))), hn _ _ (Below.refl _ _) trivial⟩
              · intro y W next hl hJ hd hn
                exact Or.inr ⟨wanted_not (j := 6) (d := 147) rfl rfl rfl ((hl.1 6 147 (by kernel_rfl) (by kernel_rfl)).trans (congrArg some (show y 6 = .bool false from hd 6 (by kernel_rfl)))), hn _ _ (Below.refl _ _) trivial⟩
              · intro y W next hl hJ hd hn
                exact Or.inr ⟨wanted_not (j := 6) (d := 147) rfl rfl rfl ((hl.1 6 147 (by kernel_rfl) (by kernel_rfl)).trans (congrArg some (show y 6 = .bool false from hd 6 (by kernel_rfl)))), hn _ _ (Below.refl _ _) trivial⟩
              · intro y W next hl hJ hd hn
                refine Or.inl ⟨wanted_free rfl, fun ev ec ef hev => ?_⟩
                have e147 : ev (.tmp 147) =  (.bool false) := hev 147 _ ((hl.1 6 147 (by kernel_rfl) (by kernel_rfl)).trans (congrArg some (show y 6 =  (.bool false) from hd 6 (by kernel_rfl))))
                have e155 := hev 155 _ (hl.1 14 155 (by kernel_rfl) (by kernel_rfl))
                clear hd hl hev
                replace hJ := Lib.hid hJ
                go_simp
                exact hn _ _ (Below.refl _ _) rfl
              · intro y W next hl hJ hd hn
                refine Or.inl ⟨wanted_free rfl, fun ev ec ef hev => ?_⟩
                have e156 : ev (.tmp 156) =  (.bool false) := hev 156 _ ((hl.1 15 156 (by kernel_rfl) (by kernel_rfl)).trans (congrArg some (show y 15 =  (.bool false) from hd 15 (by kernel_rfl))))
                clear hd hl hev
                replace hJ := Lib.hid hJ
                go_simp
                exact hn _ _ (Below.refl _ _) rfl
              · intro y W next hl hJ hd hn
                refine Or.inl ⟨wanted_of (j := 16) (d := 157) rfl rfl rfl ((hl.1 16 157 (by kernel_rfl) (by kernel_rfl)).trans (congrArg some (show y 16 = .bool false from hd 16 (by kernel_rfl)))), fun ev ec ef hev => ?_⟩
                have e5 : ev (.tmp 5) = .pointer (some ⟨w1.heap.size, 0, none⟩) := hev 5 _ ((hl.2 5 (by kernel_rfl)).trans (by kernel_rfl))
                clear hd hl hev
                replace hJ := Lib.hid hJ
                go_simp
                exact hn _ _ (Below.refl _ _) rfl
              · intro y W next hl hJ hd hn
                refine Or.inl ⟨wanted_of (j := 16) (d := 157) rfl rfl rfl ((hl.1 16 157 (by kernel_rfl) (by kernel_rfl)).trans (congrArg some (show y 16 = .bool false from hd 16 (by kernel_rfl)))), fun ev ec ef hev => ?_⟩
                have e158 : ev (.tmp 158) =  (.pointer (some ⟨w1.heap.size, 1, none⟩)) := hev 158 _ ((hl.1 17 158 (by kernel_rfl) (by kernel_rfl)).trans (congrArg some (show y 17 =  (.pointer (some ⟨w1.heap.size, 1, none⟩)) from hd 17 (by kernel_rfl))))
                clear hd hl hev
                have x1' := (b5.out.up hJ).two.2.1
                replace hJ := Lib.hid hJ
                go_simp
                exact hn _ _ (Below.refl _ _) rfl
              · intro y W next hl hJ hd hn
                refine Or.inl ⟨wanted_of (j := 16) (d := 157) rfl rfl rfl ((hl.1 16 157 (by kernel_rfl) (by kernel_rfl)).trans (congrArg some (show y 16 = .bool false from hd 16 (by kernel_rfl)))), fun ev ec ef hev => ?_⟩
                have e17 : ev (.tmp 17) = .int .i64 (k : Int) := hev 17 _ ((hl.2 17 (by kernel_rfl)).trans (by kernel_rfl))
                clear hd hl hev
                replace hJ := Lib.hid hJ
                go_simp
                exact hn _ _ (Below.refl _ _) rfl
              · intro y W next hl hJ hd hn
                refine Or.inl ⟨wanted_of (j := 16) (d := 157) rfl rfl rfl ((hl.1 16 157 (by kernel_rfl) (by kernel_rfl)).trans (congrArg some (show y 16 = .bool false from hd 16 (by kernel_rfl)))), fun ev ec ef hev => ?_⟩
                have e159 : ev (.tmp 159) =  (.slice (some ⟨bb, off, none⟩) l.length k1) := hev 159 _ ((hl.1 18 159 (by kernel_rfl) (by kernel_rfl)).trans (congrArg some (show y 18 =  (.slice (some ⟨bb, off, none⟩) l.length k1) from hd 18 (by kernel_rfl))))
                have e160 : ev (.tmp 160) =  (.int .i64 (k : Int)) := hev 160 _ ((hl.1 19 160 (by kernel_rfl) (by kernel_rfl)).trans (congrArg some (show y 19 =  (.int .i64 (k : Int)) from hd 19 (by kernel_rfl))))
                clear hd hl hev
                replace hJ := Lib.hid hJ
                go_simp
                exact hn _ _ (Below.refl _ _) rfl
              · intro y W next hl hJ hd hn
                refine Or.inl ⟨wanted_of (j := 16) (d := 157) rfl rfl rfl ((hl.1 16 157 (by kernel_rfl) (by kernel_rfl)).trans (congrArg some (show y 16 = .bool false from hd 16 (by kernel_rfl)))), fun ev ec ef hev => ?_⟩
                have e161 : ev (.tmp 161) =  (.pointer (some ⟨bb, off + k, none⟩)) := hev 161 _ ((hl.1 20 161 (by kernel_rfl) (by kernel_rfl)).trans (congrArg some (show y 20 =  (.pointer (some ⟨bb, off + k, none⟩)) from hd 20 (by kernel_rfl))))
                clear hd hl hev
                have x1' := cell_below hJ (Nat.le_refl _) _ _ hck2.out
                replace hJ := Lib.hid hJ
                go_simp
                exact hn _ _ (Below.refl _ _) rfl
              · intro y W next hl hJ hd hn
                refine Or.inl ⟨wanted_of (j := 16) (d := 157) rfl rfl rfl ((hl.1 16 157 (by kernel_rfl) (by kernel_rfl)).trans (congrArg some (show y 16 = .bool false from hd 16 (by kernel_rfl)))), fun ev ec ef hev => ?_⟩
                have e162 : ev (.tmp 162) =  (.int .i64 c0) := hev 162 _ ((hl.1 21 162 (by kernel_rfl) (by kernel_rfl)).trans (congrArg some (show y 21 =  (.int .i64 c0) from hd 21 (by kernel_rfl))))
                clear hd hl hev
                replace hJ := Lib.hid hJ
                go_simp
                exact hn _ _ (Below.refl _ _) rfl
              · intro y W next hl hJ hd hn
                refine Or.inl ⟨wanted_of (j := 16) (d := 157) rfl rfl rfl ((hl.1 16 157 (by kernel_rfl) (by kernel_rfl)).trans (congrArg some (show y 16 = .bool false from hd 16 (by kernel_rfl)))), fun ev ec ef hev => ?_⟩
                have e163 : ev (.tmp 163) =  (.bool true) := hev 163 _ ((hl.1 22 163 (by kernel_rfl) (by kernel_rfl)).trans (congrArg some (show y 22 =  (.bool true) from hd 22 (by kernel_rfl))))
                clear hd hl hev
                replace hJ := Lib.hid hJ
                go_simp
                exact hn _ _ (Below.refl _ _) rfl
              · intro y W next hl hJ hd hn
                refine Or.inl ⟨wanted_of (j := 23) (d := 164) rfl rfl rfl ((hl.1 23 164 (by kernel_rfl) (by kernel_rfl)).trans (congrArg some (show y 23 = .bool true from hd 23 (by kernel_rfl)))), fun ev ec ef hev => ?_⟩
                have e16 : ev (.tmp 16) = .string r := hev 16 _ ((hl.2 16 (by kernel_rfl)).trans (by kernel_rfl))
                clear hd hl hev
                replace hJ := Lib.hid hJ
                go_simp
                exact hn _ _ (Below.refl _ _) rfl
              · intro y W next hl hJ hd hn
                refine Or.inl ⟨wanted_of (j := 23) (d := 164) rfl rfl rfl ((hl.1 23 164 (by kernel_rfl) (by kernel_rfl)).trans (congrArg some (show y 23 = .bool true from hd 23 (by kernel_rfl)))), fun ev ec ef hev => ?_⟩
                have e17 : ev (.tmp 17) = .int .i64 (k : Int) := hev 17 _ ((hl.2 17 (by kernel_rfl)).trans (by kernel_rfl))
                clear hd hl hev
                replace hJ := Lib.hid hJ
                go_simp
                exact hn _ _ (Below.refl _ _) rfl
              · intro y W next hl hJ hd hn
                refine Or.inl ⟨wanted_of (j := 23) (d := 164) rfl rfl rfl ((hl.1 23 164 (by kernel_rfl) (by kernel_rfl)).trans (congrArg some (show y 23 = .bool true from hd 23 (by kernel_rfl)))), fun ev ec ef hev => ?_⟩
                have e165 : ev (.tmp 165) =  (.string r) := hev 165 _ ((hl.1 24 165 (by kernel_rfl) (by kernel_rfl)).trans (congrArg some (show y 24 =  (.string r) from hd 24 (by kernel_rfl))))
                have e166 : ev (.tmp 166) =  (.int .i64 (k : Int)) := hev 166 _ ((hl.1 25 166 (by kernel_rfl) (by kernel_rfl)).trans (congrArg some (show y 25 =  (.int .i64 (k : Int)) from hd 25 (by kernel_rfl))))
                clear hd hl hev
                replace hJ := Lib.hid hJ
                go_simp
                exact hn _ _ (Below.refl _ _) rfl
              · intro y W next hl hJ hd hn
                refine Or.inl ⟨wanted_of (j := 23) (d := 164) rfl rfl rfl ((hl.1 23 164 (by kernel_rfl) (by kernel_rfl)).trans (congrArg some (show y 23 = .bool true from hd 23 (by kernel_rfl)))), fun ev ec ef hev => ?_⟩
                have e167 : ev (.tmp 167) =  (.int .u8 42) := hev 167 _ ((hl.1 26 167 (by kernel_rfl) (by kernel_rfl)).trans (congrArg some (show y 26 =  (.int .u8 42) from hd 26 (by kernel_rfl))))
                clear hd hl hev
                replace hJ := Lib.hid hJ
                go_simp
                exact hn _ _ (Below.refl _ _) rfl
              · intro y W next hl hJ hd hn
                refine Or.inl ⟨wanted_of (j := 16) (d := 157) rfl rfl rfl ((hl.1 16 157 (by kernel_rfl) (by kernel_rfl)).trans (congrArg some (show y 16 = .bool false from hd 16 (by kernel_rfl)))), fun ev ec ef hev => ?_⟩
                have e164 : ev (.tmp 164) =  (.bool true) := hev 164 _ ((hl.1 23 164 (by kernel_rfl) (by kernel_rfl)).trans (congrArg some (show y 23 =  (.bool true) from hd 23 (by kernel_rfl))))
                have e168 : ev (.tmp 168) =  (.bool false) := hev 168 _ ((hl.1 27 168 (by kernel_rfl) (by kernel_rfl)).trans (congrArg some (show y 27 =  (.bool false) from hd 27 (by kernel_rfl))))
                clear hd hl hev
                replace hJ := Lib.hid hJ
                go_simp
                exact hn _ _ (Below.refl _ _) rfl
              · intro y W next hl hJ hd hn
                refine Or.inl ⟨wanted_free rfl, fun ev ec ef hev => ?_⟩
                have e157 : ev (.tmp 157) =  (.bool false) := hev 157 _ ((hl.1 16 157 (by kernel_rfl) (by kernel_rfl)).trans (congrArg some (show y 16 =  (.bool false) from hd 16 (by kernel_rfl))))
                have e169 : ev (.tmp 169) =  (.bool false) := hev 169 _ ((hl.1 28 169 (by kernel_rfl) (by kernel_rfl)).trans (congrArg some (show y 28 =  (.bool false) from hd 28 (by kernel_rfl))))
                clear hd hl hev
                replace hJ := Lib.hid hJ
                go_simp
                exact hn _ _ (Below.refl _ _) rfl
              · intro y17 w17 hB hd
                have e29 : y17 29 = .bool false := hd 29 (by decide)
                clear hd
                simp only [lay_cons, lay_nil]
                simp only [Act.put, List.setIfInBounds_toArray]
                simp only [List.set_cons_succ, List.set_cons_zero]
                rw [e29]
                go_wp2
                exact ⟨⟨k + 1, congrArg (Value.int .i64) (by omega), hlt, Below.then_ hB0.out hB (Nat.le_refl _)⟩, by simp [intOf]; omega⟩
          · have hlt' : ¬ (k : Int) < (r.size : Int) := by omega
            have hrs2 := hrs.out
            by_cases hjc : jc = 0
            · have hjc2 : (jc != 0) = false := by simpa using hjc
              go_wp2_with fail
              obtain ⟨j1, j2, j3⟩ := hjt.out hjc
              have hlab2 := Lib.hid (join_right j3).2
              have hcut1 := Lib.hid (show (⟨0, t, l⟩ : LabR) = cutR jt jl 0 (t.size : Int) from by rw [j1, j2]; exact (cut_join1 j3).symm)
              have hcut2 := Lib.hid (show (⟨0, s, m⟩ : LabR) = cutR jt jl (t.size : Int) ((t.size : Int) + (s.size : Int)) from by rw [j1, j2]; exact (cut_join2 j3).symm)
              obtain ⟨ms, hms⟩ : ∃ q, q = markT s m := ⟨_, rfl⟩
              have hor := Lib.hid (show orI mt ms = markT jt jl from by rw [j1, j2, mark_join j3, ← hmt.out, ← hms])
              replace hms := Lib.hid hms
              have hw2 : IntKind.i64.wrap ((t.size : Int) + (s.size : Int)) = (t.size : Int) + (s.size : Int) := by rw [IntKind.wrap_i64]; omega
              clear j1 j2 j3 hlt hrs2 hjc hjc2
              refine wp_region_known [(.is (.pointer (some ⟨w1.heap.size, 0, none⟩))), (.is (.string t)), (.is (.int .i64 (t.size : Int))), (.is (.pointer (some ⟨w1.heap.size, 0, none⟩))), (.is (.string t)), (.is (.int .i64 (t.size : Int))), (.is (.pointer (some ⟨w1.heap.size + 1, 0, none⟩))), (.is (.string s)), (.is (.int .i64 (s.size : Int))), (.is (.int .i64 ((t.size : Int) + (s.size : Int)))), (.is (.int .i64 (t.size : Int))), (.is (.int .i64 ((t.size : Int) + (s.size : Int))))] (by kernel_rfl) (by kernel_rfl) (by kernel_rfl) ⟨?_, ?_, ?_, ?_, ?_, ?_, ?_, ?_, ?_, ?_, ?_, ?_, trivial⟩ ?_
              · intro y W next hl hJ hd hn
                refine Or.inl ⟨wanted_free rfl, fun ev ec ef hev => ?_⟩
                have e5 : ev (.tmp 5) = .pointer (some ⟨w1.heap.size, 0, none⟩) := hev 5 _ ((hl.2 5 (by kernel_rfl)).trans (by kernel_rfl))
                clear hd hl hev
                replace hJ := Lib.hid hJ
                go_simp
                exact hn _ _ (Below.refl _ _) rfl
              · intro y W next hl hJ hd hn
                refine Or.inl ⟨wanted_free rfl, fun ev ec ef hev => ?_⟩
                have e180 : ev (.tmp 180) =  (.pointer (some ⟨w1.heap.size, 0, none⟩)) := hev 180 _ ((hl.1 0 180 (by kernel_rfl) (by kernel_rfl)).trans (congrArg some (show y 0 =  (.pointer (some ⟨w1.heap.size, 0, none⟩)) from hd 0 (by kernel_rfl))))
                clear hd hl hev
                have x0' := (b5.out.up hJ).two.1
                replace hJ := Lib.hid hJ
                go_simp
                exact hn _ _ (Below.refl _ _) rfl
              · intro y W next hl hJ hd hn
                refine Or.inl ⟨wanted_free rfl, fun ev ec ef hev => ?_⟩
                have e181 : ev (.tmp 181) =  (.string t) := hev 181 _ ((hl.1 1 181 (by kernel_rfl) (by kernel_rfl)).trans (congrArg some (show y 1 =  (.string t) from hd 1 (by kernel_rfl))))
                clear hd hl hev
                replace hJ := Lib.hid hJ
                go_simp
                exact hn _ _ (Below.refl _ _) rfl
              · intro y W next hl hJ hd hn
                refine Or.inl ⟨wanted_free rfl, fun ev ec ef hev => ?_⟩
                have e5 : ev (.tmp 5) = .pointer (some ⟨w1.heap.size, 0, none⟩) := hev 5 _ ((hl.2 5 (by kernel_rfl)).trans (by kernel_rfl))
                clear hd hl hev
                replace hJ := Lib.hid hJ
                go_simp
                exact hn _ _ (Below.refl _ _) rfl
              · intro y W next hl hJ hd hn
                refine Or.inl ⟨wanted_free rfl, fun ev ec ef hev => ?_⟩
                have e183 : ev (.tmp 183) =  (.pointer (some ⟨w1.heap.size, 0, none⟩)) := hev 183 _ ((hl.1 3 183 (by kernel_rfl) (by kernel_rfl)).trans (congrArg some (show y 3 =  (.pointer (some ⟨w1.heap.size, 0, none⟩)) from hd 3 (by kernel_rfl))))
                clear hd hl hev
                have x0' := (b5.out.up hJ).two.1
                replace hJ := Lib.hid hJ
                go_simp
                exact hn _ _ (Below.refl _ _) rfl
              · intro y W next hl hJ hd hn
                refine Or.inl ⟨wanted_free rfl, fun ev ec ef hev => ?_⟩
                have e184 : ev (.tmp 184) =  (.string t) := hev 184 _ ((hl.1 4 184 (by kernel_rfl) (by kernel_rfl)).trans (congrArg some (show y 4 =  (.string t) from hd 4 (by kernel_rfl))))
                clear hd hl hev
                replace hJ := Lib.hid hJ
                go_simp
                exact hn _ _ (Below.refl _ _) rfl
              · intro y W next hl hJ hd hn
                refine Or.inl ⟨wanted_free rfl, fun ev ec ef hev => ?_⟩
                have e6 : ev (.tmp 6) = .pointer (some ⟨w1.heap.size + 1, 0, none⟩) := hev 6 _ ((hl.2 6 (by kernel_rfl)).trans (by kernel_rfl))
                clear hd hl hev
                replace hJ := Lib.hid hJ
                go_simp
                exact hn _ _ (Below.refl _ _) rfl
              · intro y W next hl hJ hd hn
                refine Or.inl ⟨wanted_free rfl, fun ev ec ef hev => ?_⟩
                have e186 : ev (.tmp 186) =  (.pointer (some ⟨w1.heap.size + 1, 0, none⟩)) := hev 186 _ ((hl.1 6 186 (by kernel_rfl) (by kernel_rfl)).trans (congrArg some (show y 6 =  (.pointer (some ⟨w1.heap.size + 1, 0, none⟩)) from hd 6 (by kernel_rfl))))
                clear hd hl hev
                have x0' := (b6.out.up hJ).two.1
                simp only [World.size_alloc] at x0'
                replace hJ := Lib.hid hJ
                go_simp
                exact hn _ _ (Below.refl _ _) rfl
              · intro y W next hl hJ hd hn
                refine Or.inl ⟨wanted_free rfl, fun ev ec ef hev => ?_⟩
                have e187 : ev (.tmp 187) =  (.string s) := hev 187 _ ((hl.1 7 187 (by kernel_rfl) (by kernel_rfl)).trans (congrArg some (show y 7 =  (.string s) from hd 7 (by kernel_rfl))))
                clear hd hl hev
                replace hJ := Lib.hid hJ
                go_simp
                exact hn _ _ (Below.refl _ _) rfl
              · intro y W next hl hJ hd hn
                refine Or.inl ⟨wanted_free rfl, fun ev ec ef hev => ?_⟩
                have e185 : ev (.tmp 185) =  (.int .i64 (t.size : Int)) := hev 185 _ ((hl.1 5 185 (by kernel_rfl) (by kernel_rfl)).trans (congrArg some (show y 5 =  (.int .i64 (t.size : Int)) from hd 5 (by kernel_rfl))))
                have e188 : ev (.tmp 188) =  (.int .i64 (s.size : Int)) := hev 188 _ ((hl.1 8 188 (by kernel_rfl) (by kernel_rfl)).trans (congrArg some (show y 8 =  (.int .i64 (s.size : Int)) from hd 8 (by kernel_rfl))))
                clear hd hl hev
                replace hJ := Lib.hid hJ
                go_simp
                exact hn _ _ (Below.refl _ _) rfl
              · intro y W next hl hJ hd hn
                refine Or.inl ⟨wanted_free rfl, fun ev ec ef hev => ?_⟩
                have e182 : ev (.tmp 182) =  (.int .i64 (t.size : Int)) := hev 182 _ ((hl.1 2 182 (by kernel_rfl) (by kernel_rfl)).trans (congrArg some (show y 2 =  (.int .i64 (t.size : Int)) from hd 2 (by kernel_rfl))))
                clear hd hl hev
                replace hJ := Lib.hid hJ
                go_simp
                exact hn _ _ (Below.refl _ _) rfl
              · intro y W next hl hJ hd hn
                refine Or.inl ⟨wanted_free rfl, fun ev ec ef hev => ?_⟩
                have e189 : ev (.tmp 189) =  (.int .i64 ((t.size : Int) + (s.size : Int))) := hev 189 _ ((hl.1 9 189 (by kernel_rfl) (by kernel_rfl)).trans (congrArg some (show y 9 =  (.int .i64 ((t.size : Int) + (s.size : Int))) from hd 9 (by kernel_rfl))))
                clear hd hl hev
                replace hJ := Lib.hid hJ
                go_simp
                exact hn _ _ (Below.refl _ _) rfl
              · intro y23 w23 hB hd
                have e10 : y23 10 = .int .i64 (t.size : Int) := hd 10 (by decide)
                have e11 : y23 11 = .int .i64 ((t.size : Int) + (s.size : Int)) := hd 11 (by decide)
                clear hd
                simp only [lay_cons, lay_nil]
                simp only [Act.put, List.setIfInBounds_toArray]
                simp only [List.set_cons_succ, List.set_cons_zero]
                clear b50 b51 b60 b61 b70 b71 b72 b80 b81 b110 b111 b120 b121
                replace hW := Lib.hid (Below.then_ hW.out hB (Nat.le_refl _))
                replace b5 := Lib.hid (b5.out.up hB)
                replace b6 := Lib.hid (b6.out.up hB)
                replace b7 := Lib.hid (b7.out.up hB)
                replace b8 := Lib.hid (b8.out.up hB)
                replace b11 := Lib.hid (b11.out.up hB)
                replace b12 := Lib.hid (b12.out.up hB)
                replace ia := Lib.hid (ia.out.below hB)
                replace ib := Lib.hid (ib.out.below hB)
                replace ij := Lib.hid (ij.out.below hB)
                replace ic := Lib.hid (ic.out.below hB)
                replace ix := Lib.hid (ix.out.below hB)
                replace iy := Lib.hid (iy.out.below hB)
                clear hB
                rw [e10, e11]
                clear e10 e11
                go_wp2_with fail
                refine wp_region_known [(.is (.pointer (some ⟨w2.heap.size, 0, none⟩))), (.is (.agg #[.string jt, .slice A3 jl.length k3])), (.is (.int .i64 (t.size : Int))), (.out ⟨0, t, l⟩), (.is (.agg #[.string t, .slice A1 l.length k1])), (.is (.agg #[.string t, .slice A1 l.length k1, .int .i64 0])), (.is (.bool true)), (.is (.bool true)), (.is (.pointer (some ⟨w2.heap.size, 0, none⟩))), (.is (.agg #[.string jt, .slice A3 jl.length k3])), (.is (.int .i64 (t.size : Int))), (.is (.int .i64 ((t.size : Int) + (s.size : Int)))), (.out ⟨0, s, m⟩), (.is (.agg #[.string s, .slice A2 m.length k2])), (.is (.agg #[.string s, .slice A2 m.length k2, .int .i64 0])), (.is (.bool true)), (.is (.bool true)), (.is (.bool true)), (.is (.pointer (some ⟨w2.heap.size, 0, none⟩))), (.is (.agg #[.string jt, .slice A3 jl.length k3])), (.is (.int .i64 (orI mt ms))), (.is (.agg #[.string t, .slice A1 l.length k1])), (.is (.int .i64 mt)), (.is (.agg #[.string s, .slice A2 m.length k2])), (.is (.int .i64 ms)), (.is (.int .i64 (orI mt ms))), (.is (.bool true)), (.is (.bool true)), (.is (.bool true))] (by kernel_rfl) (by kernel_rfl) (by kernel_rfl) ⟨?_, ?_, ?_, ?_, ?_, ?_, ?_, ?_, ?_, ?_, ?_, ?_, ?_, ?_, ?_, ?_, ?_, ?_, ?_, ?_, ?_, ?_, ?_, ?_, ?_, ?_, ?_, ?_, ?_, trivial⟩ ?_
                · intro y W next hl hJ hd hn
                  refine Or.inl ⟨wanted_free rfl, fun ev ec ef hev => ?_⟩
                  have e7 : ev (.tmp 7) = .pointer (some ⟨w2.heap.size, 0, none⟩) := hev 7 _ ((hl.2 7 (by kernel_rfl)).trans (by kernel_rfl))
                  clear hd hl hev
                  replace hJ := Lib.hid hJ
                  go_simp
                  exact hn _ _ (Below.refl _ _) rfl
                · intro y W next hl hJ hd hn
                  refine Or.inl ⟨wanted_free rfl, fun ev ec ef hev => ?_⟩
                  have e190 : ev (.tmp 190) =  (.pointer (some ⟨w2.heap.size, 0, none⟩)) := hev 190 _ ((hl.1 0 190 (by kernel_rfl) (by kernel_rfl)).trans (congrArg some (show y 0 =  (.pointer (some ⟨w2.heap.size, 0, none⟩)) from hd 0 (by kernel_rfl))))
                  clear hd hl hev
                  have x0' := (b7.out.up hJ).three.1
                  have x1' := (b7.out.up hJ).three.2.1
                  replace hJ := Lib.hid hJ
                  go_simp
                  exact hn _ _ (Below.refl _ _) rfl
                · intro y W next hl hJ hd hn
                  refine Or.inl ⟨wanted_free rfl, fun ev ec ef hev => ?_⟩
                  have e18 : ev (.tmp 18) = .int .i64 (t.size : Int) := hev 18 _ ((hl.2 18 (by kernel_rfl)).trans (by kernel_rfl))
                  clear hd hl hev
                  replace hJ := Lib.hid hJ
                  go_simp
                  exact hn _ _ (Below.refl _ _) rfl
                · intro y W next hl hJ hd hn
                  refine Or.inl ⟨wanted_free rfl, fun ev ec ef hev => ?_⟩
                  have e191 : ev (.tmp 191) =  (.agg #[.string jt, .slice A3 jl.length k3]) := hev 191 _ ((hl.1 1 191 (by kernel_rfl) (by kernel_rfl)).trans (congrArg some (show y 1 =  (.agg #[.string jt, .slice A3 jl.length k3]) from hd 1 (by kernel_rfl))))
                  have e192 : ev (.tmp 192) =  (.int .i64 (t.size : Int)) := hev 192 _ ((hl.1 2 192 (by kernel_rfl) (by kernel_rfl)).trans (congrArg some (show y 2 =  (.int .i64 (t.size : Int)) from hd 2 (by kernel_rfl))))
                  clear hd hl hev
                  replace hJ := Lib.hid hJ
                  go_simp
                  refine (implJoin_as hcut1.out (implLabCut_any jt _ jl 0 (t.size : Int) W (by omega) (ij.out.below hJ.out) (by omega) (by omega))).mono ?_
                  rintro e w' ⟨A9, k9, rfl, ho, hb⟩
                  exact ⟨_, rfl, hn _ _ hb ⟨A9, k9, rfl, ho.ints⟩⟩
                · intro y W next hl hJ hd hn
                  refine Or.inl ⟨wanted_free rfl, fun ev ec ef hev => ?_⟩
                  have e5 : ev (.tmp 5) = .pointer (some ⟨w1.heap.size, 0, none⟩) := hev 5 _ ((hl.2 5 (by kernel_rfl)).trans (by kernel_rfl))
                  clear hd hl hev
                  have x0' := (b5.out.up hJ).two.1
                  have x1' := (b5.out.up hJ).two.2.1
                  replace hJ := Lib.hid hJ
                  go_simp
                  exact hn _ _ (Below.refl _ _) rfl
                · intro y W next hl hJ hd hn
                  refine Or.inl ⟨wanted_free rfl, fun ev ec ef hev => ?_⟩
                  have e194 : ev (.tmp 194) =  (.agg #[.string t, .slice A1 l.length k1]) := hev 194 _ ((hl.1 4 194 (by kernel_rfl) (by kernel_rfl)).trans (congrArg some (show y 4 =  (.agg #[.string t, .slice A1 l.length k1]) from hd 4 (by kernel_rfl))))
                  clear hd hl hev
                  replace hJ := Lib.hid hJ
                  go_simp
                  exact hn _ _ (Below.refl _ _) rfl
                · intro y W next hl hJ hd hn
                  refine Or.inl ⟨wanted_free rfl, fun ev ec ef hev => ?_⟩
                  obtain ⟨A193, k193, f193, i193⟩ : OutIs ⟨0, t, l⟩ (y 3) W := hd 3 (by kernel_rfl)
                  have e193 := hev 193 _ ((hl.1 3 193 (by kernel_rfl) (by kernel_rfl)).trans (congrArg some f193))
                  dsimp only at e193 i193; clear f193
                  have e195 : ev (.tmp 195) =  (.agg #[.string t, .slice A1 l.length k1, .int .i64 0]) := hev 195 _ ((hl.1 5 195 (by kernel_rfl) (by kernel_rfl)).trans (congrArg some (show y 5 =  (.agg #[.string t, .slice A1 l.length k1, .int .i64 0]) from hd 5 (by kernel_rfl))))
                  clear hd hl hev
                  replace hJ := Lib.hid hJ
                  go_simp
                  refine (lwLabs_any t l 0 A193 A1 k193 k1 W (by omega) i193 (ia.out.below hJ.out) (fun _ => hlab)).mono ?_
                  rintro e w' ⟨rfl, hb⟩
                  exact ⟨_, rfl, hn _ _ hb rfl⟩
                · intro y W next hl hJ hd hn
                  refine Or.inl ⟨wanted_free rfl, fun ev ec ef hev => ?_⟩
                  have e196 : ev (.tmp 196) =  (.bool true) := hev 196 _ ((hl.1 6 196 (by kernel_rfl) (by kernel_rfl)).trans (congrArg some (show y 6 =  (.bool true) from hd 6 (by kernel_rfl))))
                  clear hd hl hev
                  replace hJ := Lib.hid hJ
                  go_simp
                  exact hn _ _ (Below.refl _ _) rfl
                · intro y W next hl hJ hd hn
                  refine Or.inl ⟨wanted_of (j := 7) (d := 197) rfl rfl rfl ((hl.1 7 197 (by kernel_rfl) (by kernel_rfl)).trans (congrArg some (show y 7 = .bool true from hd 7 (by kernel_rfl)))), fun ev ec ef hev => ?_⟩
                  have e7 : ev (.tmp 7) = .pointer (some ⟨w2.heap.size, 0, none⟩) := hev 7 _ ((hl.2 7 (by kernel_rfl)).trans (by kernel_rfl))
                  clear hd hl hev
                  replace hJ := Lib.hid hJ
                  go_simp
                  exact hn _ _ (Below.refl _ _) rfl
                · intro y W next hl hJ hd hn
                  refine Or.inl ⟨wanted_of (j := 7) (d := 197) rfl rfl rfl ((hl.1 7 197 (by kernel_rfl) (by kernel_rfl)).trans (congrArg some (show y 7 = .bool true from hd 7 (by kernel_rfl)))), fun ev ec ef hev => ?_⟩
                  have e198 : ev (.tmp 198) =  (.pointer (some ⟨w2.heap.size, 0, none⟩)) := hev 198 _ ((hl.1 8 198 (by kernel_rfl) (by kernel_rfl)).trans (congrArg some (show y 8 =  (.pointer (some ⟨w2.heap.size, 0, none⟩)) from hd 8 (by kernel_rfl))))
                  clear hd hl hev
                  have x0' := (b7.out.up hJ).three.1
                  have x1' := (b7.out.up hJ).three.2.1
                  replace hJ := Lib.hid hJ
                  go_simp
                  exact hn _ _ (Below.refl _ _) rfl
                · intro y W next hl hJ hd hn
                  refine Or.inl ⟨wanted_of (j := 7) (d := 197) rfl rfl rfl ((hl.1 7 197 (by kernel_rfl) (by kernel_rfl)).trans (congrArg some (show y 7 = .bool true from hd 7 (by kernel_rfl)))), fun ev ec ef hev => ?_⟩
                  have e18 : ev (.tmp 18) = .int .i64 (t.size : Int) := hev 18 _ ((hl.2 18 (by kernel_rfl)).trans (by kernel_rfl))
                  clear hd hl hev
                  replace hJ := Lib.hid hJ
                  go_simp
                  exact hn _ _ (Below.refl _ _) rfl
                · intro y W next hl hJ hd hn
                  refine Or.inl ⟨wanted_of (j := 7) (d := 197) rfl rfl rfl ((hl.1 7 197 (by kernel_rfl) (by kernel_rfl)).trans (congrArg some (show y 7 = .bool true from hd 7 (by kernel_rfl)))), fun ev ec ef hev => ?_⟩
                  have e19 : ev (.tmp 19) = .int .i64 ((t.size : Int) + (s.size : Int)) := hev 19 _ ((hl.2 19 (by kernel_rfl)).trans (by kernel_rfl))
                  clear hd hl hev
                  replace hJ := Lib.hid hJ
                  go_simp
                  exact hn _ _ (Below.refl _ _) rfl
                · intro y W next hl hJ hd hn
                  refine Or.inl ⟨wanted_of (j := 7) (d := 197) rfl rfl rfl ((hl.1 7 197 (by kernel_rfl) (by kernel_rfl)).trans (congrArg some (show y 7 = .bool true from hd 7 (by kernel_rfl)))), fun ev ec ef hev => ?_⟩
                  have e199 : ev (.tmp 199) =  (.agg #[.string jt, .slice A3 jl.length k3]) := hev 199 _ ((hl.1 9 199 (by kernel_rfl) (by kernel_rfl)).trans (congrArg some (show y 9 =  (.agg #[.string jt, .slice A3 jl.length k3]) from hd 9 (by kernel_rfl))))
                  have e200 : ev (.tmp 200) =  (.int .i64 (t.size : Int)) := hev 200 _ ((hl.1 10 200 (by kernel_rfl) (by kernel_rfl)).trans (congrArg some (show y 10 =  (.int .i64 (t.size : Int)) from hd 10 (by kernel_rfl))))
                  have e201 : ev (.tmp 201) =  (.int .i64 ((t.size : Int) + (s.size : Int))) := hev 201 _ ((hl.1 11 201 (by kernel_rfl) (by kernel_rfl)).trans (congrArg some (show y 11 =  (.int .i64 ((t.size : Int) + (s.size : Int))) from hd 11 (by kernel_rfl))))
                  clear hd hl hev
                  replace hJ := Lib.hid hJ
                  go_simp
                  refine (implJoin_as hcut2.out (implLabCut_any jt _ jl (t.size : Int) ((t.size : Int) + (s.size : Int)) W (by omega) (ij.out.below hJ.out) (by omega) (by omega))).mono ?_
                  rintro e w' ⟨A9, k9, rfl, ho, hb⟩
                  exact ⟨_, rfl, hn _ _ hb ⟨A9, k9, rfl, ho.ints⟩⟩
                · intro y W next hl hJ hd hn
                  refine Or.inl ⟨wanted_of (j := 7) (d := 197) rfl rfl rfl ((hl.1 7 197 (by kernel_rfl) (by kernel_rfl)).trans (congrArg some (show y 7 = .bool true from hd 7 (by kernel_rfl)))), fun ev ec ef hev => ?_⟩
                  have e6 : ev (.tmp 6) = .pointer (some ⟨w1.heap.size + 1, 0, none⟩) := hev 6 _ ((hl.2 6 (by kernel_rfl)).trans (by kernel_rfl))
                  clear hd hl hev
                  have x0' := (b6.out.up hJ).two.1
                  have x1' := (b6.out.up hJ).two.2.1
                  simp only [World.size_alloc] at x0' x1'
                  replace hJ := Lib.hid hJ
                  go_simp
                  exact hn _ _ (Below.refl _ _) rfl
                · intro y W next hl hJ hd hn
                  refine Or.inl ⟨wanted_of (j := 7) (d := 197) rfl rfl rfl ((hl.1 7 197 (by kernel_rfl) (by kernel_rfl)).trans (congrArg some (show y 7 = .bool true from hd 7 (by kernel_rfl)))), fun ev ec ef hev => ?_⟩
                  have e203 : ev (.tmp 203) =  (.agg #[.string s, .slice A2 m.length k2]) := hev 203 _ ((hl.1 13 203 (by kernel_rfl) (by kernel_rfl)).trans (congrArg some (show y 13 =  (.agg #[.string s, .slice A2 m.length k2]) from hd 13 (by kernel_rfl))))
                  clear hd hl hev
                  replace hJ := Lib.hid hJ
                  go_simp
                  exact hn _ _ (Below.refl _ _) rfl
                · intro y W next hl hJ hd hn
                  refine Or.inl ⟨wanted_of (j := 7) (d := 197) rfl rfl rfl ((hl.1 7 197 (by kernel_rfl) (by kernel_rfl)).trans (congrArg some (show y 7 = .bool true from hd 7 (by kernel_rfl)))), fun ev ec ef hev => ?_⟩
                  obtain ⟨A202, k202, f202, i202⟩ : OutIs ⟨0, s, m⟩ (y 12) W := hd 12 (by kernel_rfl)
                  have e202 := hev 202 _ ((hl.1 12 202 (by kernel_rfl) (by kernel_rfl)).trans (congrArg some f202))
                  dsimp only at e202 i202; clear f202
                  have e204 : ev (.tmp 204) =  (.agg #[.string s, .slice A2 m.length k2, .int .i64 0]) := hev 204 _ ((hl.1 14 204 (by kernel_rfl) (by kernel_rfl)).trans (congrArg some (show y 14 =  (.agg #[.string s, .slice A2 m.length k2, .int .i64 0]) from hd 14 (by kernel_rfl))))
                  clear hd hl hev
                  replace hJ := Lib.hid hJ
                  go_simp
                  refine (lwLabs_any s m 0 A202 A2 k202 k2 W (by omega) i202 (ib.out.below hJ.out) (fun _ => hlab2.out)).mono ?_
                  rintro e w' ⟨rfl, hb⟩
                  exact ⟨_, rfl, hn _ _ hb rfl⟩
                · intro y W next hl hJ hd hn
                  refine Or.inl ⟨wanted_free rfl, fun ev ec ef hev => ?_⟩
                  have e197 : ev (.tmp 197) =  (.bool true) := hev 197 _ ((hl.1 7 197 (by kernel_rfl) (by kernel_rfl)).trans (congrArg some (show y 7 =  (.bool true) from hd 7 (by kernel_rfl))))
                  have e205 : ev (.tmp 205) =  (.bool true) := hev 205 _ ((hl.1 15 205 (by kernel_rfl) (by kernel_rfl)).trans (congrArg some (show y 15 =  (.bool true) from hd 15 (by kernel_rfl))))
                  clear hd hl hev
                  replace hJ := Lib.hid hJ
                  go_simp
                  exact hn _ _ (Below.refl _ _) rfl
                · intro y W next hl hJ hd hn
                  refine Or.inl ⟨wanted_free rfl, fun ev ec ef hev => ?_⟩
                  have e206 : ev (.tmp 206) =  (.bool true) := hev 206 _ ((hl.1 16 206 (by kernel_rfl) (by kernel_rfl)).trans (congrArg some (show y 16 =  (.bool true) from hd 16 (by kernel_rfl))))
                  clear hd hl hev
                  replace hJ := Lib.hid hJ
                  go_simp
                  exact hn _ _ (Below.refl _ _) rfl
                · intro y W next hl hJ hd hn
                  refine Or.inl ⟨wanted_of (j := 17) (d := 207) rfl rfl rfl ((hl.1 17 207 (by kernel_rfl) (by kernel_rfl)).trans (congrArg some (show y 17 = .bool true from hd 17 (by kernel_rfl)))), fun ev ec ef hev => ?_⟩
                  have e7 : ev (.tmp 7) = .pointer (some ⟨w2.heap.size, 0, none⟩) := hev 7 _ ((hl.2 7 (by kernel_rfl)).trans (by kernel_rfl))
                  clear hd hl hev
                  replace hJ := Lib.hid hJ
                  go_simp
                  exact hn _ _ (Below.refl _ _) rfl
                · intro y W next hl hJ hd hn
                  refine Or.inl ⟨wanted_of (j := 17) (d := 207) rfl rfl rfl ((hl.1 17 207 (by kernel_rfl) (by kernel_rfl)).trans (congrArg some (show y 17 = .bool true from hd 17 (by kernel_rfl)))), fun ev ec ef hev => ?_⟩
                  have e208 : ev (.tmp 208) =  (.pointer (some ⟨w2.heap.size, 0, none⟩)) := hev 208 _ ((hl.1 18 208 (by kernel_rfl) (by kernel_rfl)).trans (congrArg some (show y 18 =  (.pointer (some ⟨w2.heap.size, 0, none⟩)) from hd 18 (by kernel_rfl))))
                  clear hd hl hev
                  have x0' := (b7.out.up hJ).three.1
                  have x1' := (b7.out.up hJ).three.2.1
                  replace hJ := Lib.hid hJ
                  go_simp
                  exact hn _ _ (Below.refl _ _) rfl
                · intro y W next hl hJ hd hn
                  refine Or.inl ⟨wanted_of (j := 17) (d := 207) rfl rfl rfl ((hl.1 17 207 (by kernel_rfl) (by kernel_rfl)).trans (congrArg some (show y 17 = .bool true from hd 17 (by kernel_rfl)))), fun ev ec ef hev => ?_⟩
                  have e209 : ev (.tmp 209) =  (.agg #[.string jt, .slice A3 jl.length k3]) := hev 209 _ ((hl.1 19 209 (by kernel_rfl) (by kernel_rfl)).trans (congrArg some (show y 19 =  (.agg #[.string jt, .slice A3 jl.length k3]) from hd 19 (by kernel_rfl))))
                  clear hd hl hev
                  replace hJ := Lib.hid hJ
                  go_simp
                  refine (IntIs.as hor.out (implMarkOf_any jt _ jl W (by omega) (ij.out.below hJ.out))).mono ?_
                  rintro e w' ⟨rfl, hb⟩
                  exact ⟨_, rfl, hn _ _ hb rfl⟩
                · intro y W next hl hJ hd hn
                  refine Or.inl ⟨wanted_of (j := 17) (d := 207) rfl rfl rfl ((hl.1 17 207 (by kernel_rfl) (by kernel_rfl)).trans (congrArg some (show y 17 = .bool true from hd 17 (by kernel_rfl)))), fun ev ec ef hev => ?_⟩
                  have e5 : ev (.tmp 5) = .pointer (some ⟨w1.heap.size, 0, none⟩) := hev 5 _ ((hl.2 5 (by kernel_rfl)).trans (by kernel_rfl))
                  clear hd hl hev
                  have x0' := (b5.out.up hJ).two.1
                  have x1' := (b5.out.up hJ).two.2.1
                  replace hJ := Lib.hid hJ
                  go_simp
                  exact hn _ _ (Below.refl _ _) rfl
                · intro y W next hl hJ hd hn
                  refine Or.inl ⟨wanted_of (j := 17) (d := 207) rfl rfl rfl ((hl.1 17 207 (by kernel_rfl) (by kernel_rfl)).trans (congrArg some (show y 17 = .bool true from hd 17 (by kernel_rfl)))), fun ev ec ef hev => ?_⟩
                  have e211 : ev (.tmp 211) =  (.agg #[.string t, .slice A1 l.length k1]) := hev 211 _ ((hl.1 21 211 (by kernel_rfl) (by kernel_rfl)).trans (congrArg some (show y 21 =  (.agg #[.string t, .slice A1 l.length k1]) from hd 21 (by kernel_rfl))))
                  clear hd hl hev
                  replace hJ := Lib.hid hJ
                  go_simp
                  refine (IntIs.as hmt.out (specMarkOf_any t _ l W (by omega) (ia.out.below hJ.out))).mono ?_
                  rintro e w' ⟨rfl, hb⟩
                  exact ⟨_, rfl, hn _ _ hb rfl⟩
                · intro y W next hl hJ hd hn
                  refine Or.inl ⟨wanted_of (j := 17) (d := 207) rfl rfl rfl ((hl.1 17 207 (by kernel_rfl) (by kernel_rfl)).trans (congrArg some (show y 17 = .bool true from hd 17 (by kernel_rfl)))), fun ev ec ef hev => ?_⟩
                  have e6 : ev (.tmp 6) = .pointer (some ⟨w1.heap.size + 1, 0, none⟩) := hev 6 _ ((hl.2 6 (by kernel_rfl)).trans (by kernel_rfl))
                  clear hd hl hev
                  have x0' := (b6.out.up hJ).two.1
                  have x1' := (b6.out.up hJ).two.2.1
                  simp only [World.size_alloc] at x0' x1'
                  replace hJ := Lib.hid hJ
                  go_simp
                  exact hn _ _ (Below.refl _ _) rfl
                · intro y W next hl hJ hd hn
                  refine Or.inl ⟨wanted_of (j := 17) (d := 207) rfl rfl rfl ((hl.1 17 207 (by kernel_rfl) (by kernel_rfl)).trans (congrArg some (show y 17 = .bool true from hd 17 (by kernel_rfl)))), fun ev ec ef hev => ?_⟩
                  have e213 : ev (.tmp 213) =  (.agg #[.string s, .slice A2 m.length k2]) := hev 213 _ ((hl.1 23 213 (by kernel_rfl) (by kernel_rfl)).trans (congrArg some (show y 23 =  (.agg #[.string s, .slice A2 m.length k2]) from hd 23 (by kernel_rfl))))
                  clear hd hl hev
                  replace hJ := Lib.hid hJ
                  go_simp
                  refine (IntIs.as hms.out (specMarkOf_any s _ m W (by omega) (ib.out.below hJ.out))).mono ?_
                  rintro e w' ⟨rfl, hb⟩
                  exact ⟨_, rfl, hn _ _ hb rfl⟩
                · intro y W next hl hJ hd hn
                  refine Or.inl ⟨wanted_of (j := 17) (d := 207) rfl rfl rfl ((hl.1 17 207 (by kernel_rfl) (by kernel_rfl)).trans (congrArg some (show y 17 = .bool true from hd 17 (by kernel_rfl)))), fun ev ec ef hev => ?_⟩
                  have e212 : ev (.tmp 212) =  (.int .i64 mt) := hev 212 _ ((hl.1 22 212 (by kernel_rfl) (by kernel_rfl)).trans (congrArg some (show y 22 =  (.int .i64 mt) from hd 22 (by kernel_rfl))))
                  have e214 : ev (.tmp 214) =  (.int .i64 ms) := hev 214 _ ((hl.1 24 214 (by kernel_rfl) (by kernel_rfl)).trans (congrArg some (show y 24 =  (.int .i64 ms) from hd 24 (by kernel_rfl))))
                  clear hd hl hev
                  replace hJ := Lib.hid hJ
                  go_simp
                  exact hn _ _ (Below.refl _ _) rfl
                · intro y W next hl hJ hd hn
                  refine Or.inl ⟨wanted_of (j := 17) (d := 207) rfl rfl rfl ((hl.1 17 207 (by kernel_rfl) (by kernel_rfl)).trans (congrArg some (show y 17 = .bool true from hd 17 (by kernel_rfl)))), fun ev ec ef hev => ?_⟩
                  have e210 : ev (.tmp 210) =  (.int .i64 (orI mt ms)) := hev 210 _ ((hl.1 20 210 (by kernel_rfl) (by kernel_rfl)).trans (congrArg some (show y 20 =  (.int .i64 (orI mt ms)) from hd 20 (by kernel_rfl))))
                  have e215 : ev (.tmp 215) =  (.int .i64 (orI mt ms)) := hev 215 _ ((hl.1 25 215 (by kernel_rfl) (by kernel_rfl)).trans (congrArg some (show y 25 =  (.int .i64 (orI mt ms)) from hd 25 (by kernel_rfl))))
                  clear hd hl hev
                  replace hJ := Lib.hid hJ
                  go_simp
                  exact hn _ _ (Below.refl _ _) rfl
                · intro y W next hl hJ hd hn
                  refine Or.inl ⟨wanted_free rfl, fun ev ec ef hev => ?_⟩
                  have e207 : ev (.tmp 207) =  (.bool true) := hev 207 _ ((hl.1 17 207 (by kernel_rfl) (by kernel_rfl)).trans (congrArg some (show y 17 =  (.bool true) from hd 17 (by kernel_rfl))))
                  have e216 : ev (.tmp 216) =  (.bool true) := hev 216 _ ((hl.1 26 216 (by kernel_rfl) (by kernel_rfl)).trans (congrArg some (show y 26 =  (.bool true) from hd 26 (by kernel_rfl))))
                  clear hd hl hev
                  replace hJ := Lib.hid hJ
                  go_simp
                  exact hn _ _ (Below.refl _ _) rfl
                · intro y W next hl hJ hd hn
                  refine Or.inl ⟨wanted_free rfl, fun ev ec ef hev => ?_⟩
                  have e217 : ev (.tmp 217) =  (.bool true) := hev 217 _ ((hl.1 27 217 (by kernel_rfl) (by kernel_rfl)).trans (congrArg some (show y 27 =  (.bool true) from hd 27 (by kernel_rfl))))
                  clear hd hl hev
                  replace hJ := Lib.hid hJ
                  go_simp
                  exact hn _ _ (Below.refl _ _) rfl
                · intro y24 w24 hB hd
                  have e28 : y24 28 = .bool true := hd 28 (by decide)
                  have hW2 := Lib.hid (Below.then_ hW.out hB (Nat.le_refl _))
                  clear hd
                  simp only [lay_cons, lay_nil]
                  simp only [Act.put, List.setIfInBounds_toArray]
                  simp only [List.set_cons_succ, List.set_cons_zero]
                  rw [e28]
                  go_wp2
                  go_ret
                  exact ⟨rfl, hW2.out⟩
            · have hjc2 : (jc != 0) = true := by simpa using hjc
              go_wp2
              go_ret
              exact ⟨rfl, hW.out⟩
end Go.Proofs.Ytlgedbgpekfobaa
