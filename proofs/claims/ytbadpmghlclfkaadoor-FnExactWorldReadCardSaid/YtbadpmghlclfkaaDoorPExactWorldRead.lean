/- WorldRead of the program answers as that of the model, at every text; what it tells owns its memory. Conditions, tied to the program's text by the card: the package variable tickWords holds the ticks' words, the library's table uint64pow10 the powers of ten, and its two sentinels are what they are. -/
import Derived.Test.YtbadpmghlclfkaaDoorRows
import Derived.Test.YtbadpmghlclfkaaDoorCards
import Derived.Test.YtbadpmghlclfkaaDoorTie
import Derived.WalkKit
import Derived.ProofKit
import Derived.OpenShut
import Derived.ShutString
import Derived.ChangeOld
import Derived.Below
import Derived.ChangeSame
import Derived.ChangeVars
import Derived.JoinedOf
import Derived.RowKit
import Derived.RowKitTokens
import Derived.LaidLaws
import Derived.LaidHandle
import Derived.Lay
import Derived.MakeChecks
import Derived.Lib.LaidTab
import Derived.Lib.LaidU8
import Derived.Stop.LaidErr
import Derived.WalkSmall
import Derived.Stop.Joined
import Derived.SevenTiedAt
import Derived.Shelf.Vars
import Derived.Test.YtbadpmghlclfkaaDoorTckR
import Derived.Test.YtbadpmghlclfkaaDoorTckU
import Derived.Test.YtbadpmghlclfkaaDoorHand
namespace Go.Proofs.YtbadpmghlclfkaaDoor.fnExactWorldRead
open Go.ChangeShapes Go.WideShapes Go.ChangeAt Go.RowKit
open Go.ChangeMaps (open_string shut_string)
set_option linter.unusedVariables false


set_option maxRecDepth 100000 in
set_option maxHeartbeats 32000000 in
theorem walk (s : ByteArray) (_hws : s.size ≤ maxLen) (w : World) (hE : Env w) (hT : TWords w) :
    Calls Tryd.prog 5 #[.string s] w fun e w' => e = .returned (.bool true) ∧ Below w.heap.size w w' := by
  have hW := Lib.hid (Below.refl w.heap.size w)
  by_cases hs : s.size ≤ 1048576
  · have hs' : ¬ (1048576 : Int) < (s.size : Int) := by omega
    have hs2 : s.size ≤ maxLen := by unfold maxLen; omega
    obtain ⟨R, hR⟩ : ∃ R : WoR, R = if 8000 < s.size then ⟨[], 2⟩ else readW (tx s) := ⟨_, rfl⟩
    have hRR := Lib.hid (show R.l.length ≤ 8000 ∧ ∀ x ∈ R.l, TikWf x by
      rw [hR]
      split
      · exact ⟨by simp, by simp⟩
      · rename_i h8
        have h9 := worldI_wf (t := tx s) (by have := tx_size s; omega)
        unfold readW
        split
        · exact h9
        · exact ⟨by simp, by simp⟩)
    have hRl := Lib.hid (show R.l.length ≤ 1048576 by have := hRR.out.1; omega)
    have hRw := Lib.hid hRR.out.2
    have hSP := Lib.hid (fun w => show Calls Tryd.prog 11 #[.string s] w (WorldEnd w.heap.size R w) by rw [hR]; exact specWorldRead_any s w hs)
    have hIM := Lib.hid (fun w (hE : Env w) (hT : TWords w) => show Calls Tryd.prog 10 #[.string s] w (WorldEnd w.heap.size R w) by rw [hR]; exact implWorldRead_any s w hs hE hT)
    obtain ⟨M, hM⟩ : ∃ M, M = 1 + 3 * R.l.length := ⟨_, rfl⟩
    obtain ⟨N, hN⟩ : ∃ N, N = markTs 1 R.l.length := ⟨_, rfl⟩
    have hNl := Lib.hid (show N.length = R.l.length by rw [hN, markTs_len])
    have hMA := Lib.hid (fun w v lo hi (h : OwnK w lo hi v R.l) => show Calls Tryd.prog 23 #[.agg #[v, .int .i64 R.c], .int .i64 1] w (fun e w' => e = .returned (.int .i64 (M : Int)) ∧ OwnK w' lo hi v N ∧ w.grownBy w' v.ownBlock) by rw [hM, hN]; exact markWorldOut_any v R.l R.c 1 lo hi w (by have := hRR.out.1; omega) (by omega) h)
    have hHE := Lib.hid (fun w v (h : Tiks w v N) => show Calls Tryd.prog 24 #[.agg #[v, .int .i64 R.c], .int .i64 1] w (Gives (.int .i64 (M : Int)) w) by rw [hM]; exact heldWorldOut_any v R.l.length R.c 1 w (by have := hRR.out.1; omega) (by omega) (by rw [← hN]; exact h))
    have hM0 : ¬ (M : Int) < 0 := by omega
    clear hR hM hN hs
    have hE0 := Lib.hid hE
    have hT0 := Lib.hid hT
    clear hE hT
    go_enter Tryd.func5, Tryd.ntmps5
    go_wp2_with (go_at_call 11; refine (hSP.out _).mono ?_; rintro e1 w1 ⟨A0, cap0, rfl, ho0, hb1⟩; replace hW := Lib.hid (Below.then_ hW.out hb1 (Nat.le_refl _)); have z1 := Lib.hid (show w.heap.size ≤ w1.heap.size from Nat.le_trans (Nat.le_refl _) hb1.size); have ow := Lib.hid (show OwnK w1 (w.heap.size) w1.heap.size (.slice A0 R.l.length cap0) R.l from OwnK.new ho0 (Nat.le_refl _) hRl.out hRw.out); clear ho0; replace hb1 := Lib.hid hb1)
    replace hW := Lib.hid (hW.out.alloc hW.out.size (.cells #[.slice A0 R.l.length cap0, .int .i64 R.c] 28))
    replace ow := Lib.hid (ow.out.alloc (.cells #[.slice A0 R.l.length cap0, .int .i64 R.c] 28))
    have bw := Lib.hid (show Blk (w1.alloc (.cells #[.slice A0 R.l.length cap0, .int .i64 R.c] 28)) w1.heap.size 28 [.slice A0 R.l.length cap0, .int .i64 R.c] from heap_alloc_new w1 (.cells #[.slice A0 R.l.length cap0, .int .i64 R.c] 28))
    obtain ⟨bw0, bw1, -, -⟩ := bw.out.two; have bwl := bw.out.lt
    go_wp2_with (go_at_call 10; refine (hIM.out _ (hE0.out.below hW.out) (hT0.out.below hW.out)).mono ?_; rintro e2 w2 ⟨A1, cap1, rfl, ho1, hb2⟩; replace hW := Lib.hid (Below.then_ hW.out hb2 (Nat.le_refl _)); replace bw := Lib.hid (bw.out.up hb2); replace ow := Lib.hid (ow.out.below hb2); clear bw0 bw1 bwl; obtain ⟨bw0, bw1, -, -⟩ := bw.out.two; have bwl := bw.out.lt; have z2 := Lib.hid (show w1.heap.size + 1 ≤ w2.heap.size from Nat.le_trans (by simp) hb2.size); have og := Lib.hid (show OwnK w2 (w1.heap.size + 1) w2.heap.size (.slice A1 R.l.length cap1) R.l from OwnK.new ho1 (by simp) hRl.out hRw.out); clear ho1; replace hb2 := Lib.hid hb2)
    replace hW := Lib.hid (hW.out.alloc hW.out.size (.cells #[.slice A1 R.l.length cap1, .int .i64 R.c] 28))
    replace bw := Lib.hid (bw.out.alloc (.cells #[.slice A1 R.l.length cap1, .int .i64 R.c] 28))
    replace ow := Lib.hid (ow.out.alloc (.cells #[.slice A1 R.l.length cap1, .int .i64 R.c] 28))
    replace og := Lib.hid (og.out.alloc (.cells #[.slice A1 R.l.length cap1, .int .i64 R.c] 28))
    have bg := Lib.hid (show Blk (w2.alloc (.cells #[.slice A1 R.l.length cap1, .int .i64 R.c] 28)) w2.heap.size 28 [.slice A1 R.l.length cap1, .int .i64 R.c] from heap_alloc_new w2 (.cells #[.slice A1 R.l.length cap1, .int .i64 R.c] 28))
    clear bw0 bw1 bwl
    obtain ⟨bw0, bw1, -, -⟩ := bw.out.two; have bwl := bw.out.lt
    obtain ⟨bg0, bg1, -, -⟩ := bg.out.two; have bgl := bg.out.lt
    go_wp2_with (go_at_call 22; refine (eqWorldOut_same _ _ R.l R.c _ og.out.tiks ow.out.tiks).mono ?_; rintro e3 w3 ⟨rfl, hb3⟩; replace hW := Lib.hid (Below.then_ hW.out hb3 (Nat.le_refl _)); replace bw := Lib.hid (bw.out.up hb3); replace bg := Lib.hid (bg.out.up hb3); replace ow := Lib.hid (ow.out.below hb3); replace og := Lib.hid (og.out.below hb3); clear bw0 bw1 bwl; obtain ⟨bw0, bw1, -, -⟩ := bw.out.two; have bwl := bw.out.lt; clear bg0 bg1 bgl; obtain ⟨bg0, bg1, -, -⟩ := bg.out.two; have bgl := bg.out.lt; have z3 := Lib.hid (show w2.heap.size + 1 ≤ w3.heap.size from Nat.le_trans (by simp) hb3.size); replace hb3 := Lib.hid hb3)
    go_wp2_with (go_at_call 23; refine (hMA.out _ _ _ _ og.out).mono ?_; rintro e4 w4 ⟨rfl, ho, hg⟩; replace hW := Lib.hid (og.out.stays hg hW.out (by have := z1.out; have := z2.out; have := z3.out; omega)); replace bw := Lib.hid (og.out.blk hg bw.out (by have := z1.out; have := z2.out; have := z3.out; omega)); replace bg := Lib.hid (og.out.blk hg bg.out (by have := z1.out; have := z2.out; have := z3.out; omega)); replace ow := Lib.hid (ow.out.apart hg og.out (by have := z1.out; have := z2.out; have := z3.out; omega)); have z4 := Lib.hid (show w3.heap.size ≤ w4.heap.size from Nat.le_trans (Nat.le_refl _) hg.size); replace og := Lib.hid (og.out.marked ho); clear ho hg; clear bw0 bw1 bwl; obtain ⟨bw0, bw1, -, -⟩ := bw.out.two; have bwl := bw.out.lt; clear bg0 bg1 bgl; obtain ⟨bg0, bg1, -, -⟩ := bg.out.two; have bgl := bg.out.lt)
    go_wp2_with (go_at_call 24; refine (hHE.out _ _ og.out.tiks).mono ?_; rintro e5 w5 ⟨rfl, hb5⟩; replace hW := Lib.hid (Below.then_ hW.out hb5 (Nat.le_refl _)); replace bw := Lib.hid (bw.out.up hb5); replace bg := Lib.hid (bg.out.up hb5); replace ow := Lib.hid (ow.out.below hb5); replace og := Lib.hid (og.out.below hb5); clear bw0 bw1 bwl; obtain ⟨bw0, bw1, -, -⟩ := bw.out.two; have bwl := bw.out.lt; clear bg0 bg1 bgl; obtain ⟨bg0, bg1, -, -⟩ := bg.out.two; have bgl := bg.out.lt; have z5 := Lib.hid (show w4.heap.size ≤ w5.heap.size from Nat.le_trans (Nat.le_refl _) hb5.size); replace hb5 := Lib.hid hb5)
    go_wp2_with (go_at_call 10; refine (hIM.out _ (hE0.out.below hW.out) (hT0.out.below hW.out)).mono ?_; rintro e6 w6 ⟨A8, cap8, rfl, ho8, hb6⟩; replace hW := Lib.hid (Below.then_ hW.out hb6 (Nat.le_refl _)); replace bw := Lib.hid (bw.out.up hb6); replace bg := Lib.hid (bg.out.up hb6); replace ow := Lib.hid (ow.out.below hb6); replace og := Lib.hid (og.out.below hb6); clear bw0 bw1 bwl; obtain ⟨bw0, bw1, -, -⟩ := bw.out.two; have bwl := bw.out.lt; clear bg0 bg1 bgl; obtain ⟨bg0, bg1, -, -⟩ := bg.out.two; have bgl := bg.out.lt; have z6 := Lib.hid (show w5.heap.size ≤ w6.heap.size from Nat.le_trans (Nat.le_refl _) hb6.size); have oh := Lib.hid (show OwnK w6 (w5.heap.size) w6.heap.size (.slice A8 R.l.length cap8) R.l from OwnK.new ho8 (Nat.le_refl _) hRl.out hRw.out); clear ho8; replace hb6 := Lib.hid hb6)
    replace hW := Lib.hid (hW.out.alloc hW.out.size (.cells #[.slice A8 R.l.length cap8, .int .i64 R.c] 28))
    replace bw := Lib.hid (bw.out.alloc (.cells #[.slice A8 R.l.length cap8, .int .i64 R.c] 28))
    replace bg := Lib.hid (bg.out.alloc (.cells #[.slice A8 R.l.length cap8, .int .i64 R.c] 28))
    replace ow := Lib.hid (ow.out.alloc (.cells #[.slice A8 R.l.length cap8, .int .i64 R.c] 28))
    replace og := Lib.hid (og.out.alloc (.cells #[.slice A8 R.l.length cap8, .int .i64 R.c] 28))
    replace oh := Lib.hid (oh.out.alloc (.cells #[.slice A8 R.l.length cap8, .int .i64 R.c] 28))
    have bh := Lib.hid (show Blk (w6.alloc (.cells #[.slice A8 R.l.length cap8, .int .i64 R.c] 28)) w6.heap.size 28 [.slice A8 R.l.length cap8, .int .i64 R.c] from heap_alloc_new w6 (.cells #[.slice A8 R.l.length cap8, .int .i64 R.c] 28))
    clear bw0 bw1 bwl
    obtain ⟨bw0, bw1, -, -⟩ := bw.out.two; have bwl := bw.out.lt
    clear bg0 bg1 bgl
    obtain ⟨bg0, bg1, -, -⟩ := bg.out.two; have bgl := bg.out.lt
    obtain ⟨bh0, bh1, -, -⟩ := bh.out.two; have bhl := bh.out.lt
    go_wp2_with (go_at_call 22; refine (eqWorldOut_same _ _ R.l R.c _ oh.out.tiks ow.out.tiks).mono ?_; rintro e7 w7 ⟨rfl, hb7⟩; replace hW := Lib.hid (Below.then_ hW.out hb7 (Nat.le_refl _)); replace bw := Lib.hid (bw.out.up hb7); replace bg := Lib.hid (bg.out.up hb7); replace bh := Lib.hid (bh.out.up hb7); replace ow := Lib.hid (ow.out.below hb7); replace og := Lib.hid (og.out.below hb7); replace oh := Lib.hid (oh.out.below hb7); clear bw0 bw1 bwl; obtain ⟨bw0, bw1, -, -⟩ := bw.out.two; have bwl := bw.out.lt; clear bg0 bg1 bgl; obtain ⟨bg0, bg1, -, -⟩ := bg.out.two; have bgl := bg.out.lt; clear bh0 bh1 bhl; obtain ⟨bh0, bh1, -, -⟩ := bh.out.two; have bhl := bh.out.lt; have z7 := Lib.hid (show w6.heap.size + 1 ≤ w7.heap.size from Nat.le_trans (by simp) hb7.size); replace hb7 := Lib.hid hb7)
    go_wp2_with (go_at_call 24; refine (hHE.out _ _ og.out.tiks).mono ?_; rintro e8 w8 ⟨rfl, hb8⟩; replace hW := Lib.hid (Below.then_ hW.out hb8 (Nat.le_refl _)); replace bw := Lib.hid (bw.out.up hb8); replace bg := Lib.hid (bg.out.up hb8); replace bh := Lib.hid (bh.out.up hb8); replace ow := Lib.hid (ow.out.below hb8); replace og := Lib.hid (og.out.below hb8); replace oh := Lib.hid (oh.out.below hb8); clear bw0 bw1 bwl; obtain ⟨bw0, bw1, -, -⟩ := bw.out.two; have bwl := bw.out.lt; clear bg0 bg1 bgl; obtain ⟨bg0, bg1, -, -⟩ := bg.out.two; have bgl := bg.out.lt; clear bh0 bh1 bhl; obtain ⟨bh0, bh1, -, -⟩ := bh.out.two; have bhl := bh.out.lt; have z8 := Lib.hid (show w7.heap.size ≤ w8.heap.size from Nat.le_trans (Nat.le_refl _) hb8.size); replace hb8 := Lib.hid hb8)
    go_ret
    exact ⟨rfl, hW.out⟩
  · have hs' : (1048576 : Int) < (s.size : Int) := by omega
    go_enter Tryd.func5, Tryd.ntmps5
    go_wp2
    go_ret
    exact ⟨rfl, hW.out⟩

theorem own : ownKnob Tryd.prog.godebug = none := by kernel_rfl
theorem laidOut : laidOutB Tryd.prog = true := by kernel_rfl
theorem pow_of_laid {W : World} (h : laidMet Tryd.prog Rows.fnExactWorldReadRow.laid W) : Pow W := by
  have h1 : laidMet Tryd.prog (("internal/strconv.uint64pow10", Lib.tabData .u64 Lib.pow10Tab) :: _) W := h.tail.tail
  have hT := Lib.tabIs_of_head Tryd.named_pow (show (Tryd.prog.globals[2]?).map (·.type) = some 170 by kernel_rfl) Tryd.underlying170 Tryd.underlying114 (by kernel_rfl) (by kernel_rfl) h1
  exact ⟨World.block_lt_of_cell? W _ (hT.cell Tryd.named_pow 0 (by rw [Lib.pow10Tab_length]; omega)), hT⟩
theorem wordsAt : Tryd.prog.globalNamed "loop.example/g00752/impl.tickWords" = some 0 := by kernel_rfl
theorem wordsType : (Tryd.prog.globals[0]?).map (·.type) = some 111 := by kernel_rfl
theorem wordsCells : Tryd.prog.cellsOf 111 = 6 := by kernel_rfl
theorem oneString : Tryd.prog.cellsOf 9 = 1 := by kernel_rfl
/-- What the variable's cells hold. -/
def wordsRow : Array Value := #[.string ⟨#[]⟩, .string ⟨#[115, 97, 121, 115]⟩, .string ⟨#[115, 104, 111, 119]⟩, .string ⟨#[104, 105, 100, 101]⟩, .string ⟨#[111, 118, 101, 114]⟩, .string ⟨#[116, 105, 109, 101]⟩]
abbrev wordsData {H : Type} : DataW H := .agg [.lit (.string []), .lit (.string [115, 97, 121, 115]), .lit (.string [115, 104, 111, 119]), .lit (.string [104, 105, 100, 101]), .lit (.string [111, 118, 101, 114]), .lit (.string [116, 105, 109, 101])]
theorem words_reads {H : Type} (enc : TypeId × Value → H) (W : World) (sp : Nat → Bool) : DataW.trod enc Tryd.prog W 0 sp true 3 111 wordsRow.toList = some (wordsData, []) := by kernel_rfl
theorem str_eq {s : ByteArray} {l : List UInt8} (h : s.data.toList = l) : s = ⟨l.toArray⟩ := by subst h; cases s; simp
theorem words_of_trod {H : Type} {enc : TypeId × Value → H} {W : World} {base : Nat} {sp : Nat → Bool} {held : Bool} {fuel : Nat} {cs : List Value} {p : List MemPlace}
    (h : DataW.trod enc Tryd.prog W base sp held fuel 111 cs = some (wordsData, p)) : cs = wordsRow.toList := by
  cases fuel with
  | zero => simp [DataW.trod] at h
  | succ fuel =>
    simp only [DataW.trod, Tryd.underlying111, wordsCells, oneString] at h
    split at h
    · rename_i hl
      obtain ⟨c0, c1, c2, c3, c4, c5, rfl⟩ : ∃ c0 c1 c2 c3 c4 c5, cs = [c0, c1, c2, c3, c4, c5] := by
        match cs, hl with
        | [x0, x1, x2, x3, x4, x5], _ => exact ⟨x0, x1, x2, x3, x4, x5, rfl⟩
      have e : List.range 6 = [0, 1, 2, 3, 4, 5] := rfl
      rw [e] at h
      simp only [Option.map_eq_some_iff, List.mapM_cons, List.mapM_nil, Option.bind_eq_bind, Option.bind_eq_some_iff, Option.pure_def, Option.some.injEq] at h
      obtain ⟨xs, ⟨y0, h0, _, ⟨y1, h1, _, ⟨y2, h2, _, ⟨y3, h3, _, ⟨y4, h4, _, ⟨y5, h5, _, rfl, rfl⟩, rfl⟩, rfl⟩, rfl⟩, rfl⟩, rfl⟩, hx⟩ := h
      obtain ⟨n0, e0, z0, _⟩ := DataW.trod_string Tryd.underlying9 h0
      obtain ⟨n1, e1, z1, _⟩ := DataW.trod_string Tryd.underlying9 h1
      obtain ⟨n2, e2, z2, _⟩ := DataW.trod_string Tryd.underlying9 h2
      obtain ⟨n3, e3, z3, _⟩ := DataW.trod_string Tryd.underlying9 h3
      obtain ⟨n4, e4, z4, _⟩ := DataW.trod_string Tryd.underlying9 h4
      obtain ⟨n5, e5, z5, _⟩ := DataW.trod_string Tryd.underlying9 h5
      simp only [wordsData, z0, z1, z2, z3, z4, z5, Prod.mk.injEq, DataW.agg.injEq, List.map_cons, List.map_nil, List.cons.injEq, DataW.lit.injEq, Lit.string.injEq, and_true] at hx
      simp at e0 e1 e2 e3 e4 e5
      obtain ⟨⟨t0, t1, t2, t3, t4, t5⟩, _⟩ := hx
      rw [e0, e1, e2, e3, e4, e5, str_eq t0, str_eq t1, str_eq t2, str_eq t3, str_eq t4, str_eq t5]
      rfl
    · cases h
theorem words_of_laid {W : World} (h : laidMet Tryd.prog Rows.fnExactWorldReadRow.laid W) : W.var? Tryd.prog "loop.example/g00752/impl.tickWords" = some wordsRow := by
  obtain ⟨g, t, cs, fuel, p, hg, ht, hvar, hd⟩ := Lib.laidMet.reads h (n := "loop.example/g00752/impl.tickWords") (d := wordsData) (by exact (.tail _ (.tail _ (.tail _ (.tail _ (.tail _ (.head _)))))))
  obtain rfl := Option.some.inj (wordsAt.symm.trans hg)
  obtain rfl := Option.some.inj (wordsType.symm.trans ht)
  rw [hvar]
  congr 1
  obtain ⟨l⟩ := cs
  exact congrArg List.toArray (words_of_trod hd)
theorem twords_of {W : World} (h : W.var? Tryd.prog "loop.example/g00752/impl.tickWords" = some wordsRow) : TWords W := by
  intro k hk
  have hc := World.var?_cell wordsAt h k
  rcases (show k = 0 ∨ k = 1 ∨ k = 2 ∨ k = 3 ∨ k = 4 ∨ k = 5 by omega) with rfl | rfl | rfl | rfl | rfl | rfl <;> exact hc
theorem sentErrRange {W : World} (h : laidMet Tryd.prog Rows.fnExactWorldReadRow.laid W) : ∃ tp p, W.var? Tryd.prog "strconv.ErrRange" = some #[.iface tp p] := by
  obtain ⟨a0, s0, hv, _⟩ := laid_sentinel (h.tail.tail.tail) (show Tryd.prog.globalNamed "strconv.ErrRange" = some 5 by kernel_rfl) (show (Tryd.prog.globals[5]?).map (·.type) = some 132 by kernel_rfl) Tryd.underlying132 (typeName_ptr_named (nm := "errors.errorString") (by kernel_rfl) (by kernel_rfl) (by decide)) Tryd.underlying191 Tryd.underlying193 rfl rfl Tryd.underlying9 (by kernel_rfl) (by kernel_rfl)
  exact ⟨_, _, hv⟩
theorem sentErrSyntax {W : World} (h : laidMet Tryd.prog Rows.fnExactWorldReadRow.laid W) : ∃ tp p, W.var? Tryd.prog "strconv.ErrSyntax" = some #[.iface tp p] := by
  obtain ⟨a0, s0, hv, _⟩ := laid_sentinel (h.tail.tail.tail.tail) (show Tryd.prog.globalNamed "strconv.ErrSyntax" = some 4 by kernel_rfl) (show (Tryd.prog.globals[4]?).map (·.type) = some 132 by kernel_rfl) Tryd.underlying132 (typeName_ptr_named (nm := "errors.errorString") (by kernel_rfl) (by kernel_rfl) (by decide)) Tryd.underlying191 Tryd.underlying193 rfl rfl Tryd.underlying9 (by kernel_rfl) (by kernel_rfl)
  exact ⟨_, _, hv⟩
theorem size_of_shaped {W : World} (hs : W.ShapedOpen Tryd.prog) : 8 ≤ W.heap.size := by
  have h1 : (((begin Tryd.prog (fun _ _ => 0) default).world.heap[7]?).bind Obj.row?).isSome = true := by kernel_rfl
  obtain ⟨⟨z, t⟩, h0⟩ := Option.isSome_iff_exists.1 h1
  obtain ⟨cs, hh, _⟩ := hs.1 7 z t (of_decide_eq_true (by kernel_rfl)) h0
  exact lt_of_block hh
theorem env_of {W : World} (h : laidMet Tryd.prog Rows.fnExactWorldReadRow.laid W) (hs : W.ShapedOpen Tryd.prog) : Env W :=
  ⟨size_of_shaped hs, (pow_of_laid h).2, sentErrSyntax h, sentErrRange h, cell_of_shapedOpen_int (P := Tryd.prog) (g := 3) (t := 3) (zero := #[.int .i64 0]) hs (of_decide_eq_true (by kernel_rfl)) (by kernel_rfl) rfl (by kernel_rfl) (by kernel_rfl) Tryd.underlying3⟩

set_option maxRecDepth 100000 in
theorem lifted (os : Os) (started : os.Started) (H : Type) (enc : TypeId × Value → H) :
    ReturnsInHanded {} Tryd.checked os 5 .any (fun w args => (Rows.fnExactWorldReadSpec.pre enc Tryd.prog Tryd.f5 [] false w args ∧ laidMetH Tryd.prog Rows.fnExactWorldReadRow.laid w) ∧ sizedMet enc Tryd.prog Tryd.f5 (OpenSpec.ofChange Rows.fnExactWorldReadSpec) false w args)
      (Rows.fnExactWorldReadSpec.post enc Tryd.prog Tryd.f5 false true false false) := by
  refine handed_shaped (C := Tryd.checked) (X := fun w _ => laidMetH Tryd.prog Rows.fnExactWorldReadRow.laid w) (fun _ _ _ hh h => h.of_heap hh) own started (by kernel_rfl) Tryd.func5
    (ChangeSpec.witness_shaped (enc := enc) (C := Tryd.checked) (os := os) (X := fun w _ => laidMetH Tryd.prog Rows.fnExactWorldReadRow.laid w) false (World.laidAll Tryd.prog os Rows.fnExactWorldReadRow.laid) #[.string ByteArray.empty] 8 (World.laidAll_os _ _ _)
      (World.shaped_of_ZipB (by kernel_rfl) (by kernel_rfl)) (by kernel_rfl) (by kernel_rfl) (by kernel_rfl)
      (by rw [MakeChecks.laidMetH_plain _ _ _ (by kernel_rfl)]; exact laidMet_laidAll _ (by kernel_rfl) (by kernel_rfl))) ?_
  intro W base args ds gs before hval0 hW _ _ hSh hL _
  have hval : ∀ (j : Nat) t v, Tryd.f5.params[j]? = some t → args[j]? = some v → Value.okWide Tryd.prog W .any base t v := hval0
  rw [MakeChecks.laidMetH_plain _ _ _ (by kernel_rfl)] at hL
  have hW' := hW
  obtain ⟨p, q, hA0, hV0, rfl, hfz, hnd⟩ := hW
  have hA : DataW.TrodAll enc Tryd.prog W 0 (fun _ => true) true Tryd.f5.params.toList args.toList ds p := hA0
  have hV : DataW.TrodVars enc Tryd.prog W (fun _ => true) ["loop.example/g00752/impl.tickWords"] gs q := hV0
  rw [Tryd.params5] at hA hval
  obtain ⟨v0, vs0, d0, ds0, p0, q0, hargs, rfl, rfl, h0, r0⟩ := trodAll_cons hA
  obtain ⟨rfl, rfl, rfl⟩ := trodAll_nil r0
  obtain rfl : args = #[v0] := by cases args; simp_all
  obtain ⟨g, t, cs, fuel, d, p', rfl, hgn, htn, hvar, hd, rfl⟩ := trodVars_one hV
  obtain rfl := Option.some.inj (wordsAt.symm.trans hgn)
  obtain rfl := Option.some.inj (wordsType.symm.trans htn)
  obtain rfl : cs = wordsRow := Option.some.inj (hvar.symm.trans (words_of_laid hL))
  obtain ⟨rfl, rfl⟩ := DataW.Trod.unique (v := .agg wordsRow) ⟨fuel, hd⟩ ⟨3, words_reads enc W _⟩
  obtain ⟨a0, rfl, rfl, rfl, w0⟩ := open_string Tryd.underlying9 (hval 0 9 v0 rfl rfl) h0
  clear hA0 hval0
  refine (walk a0 w0 W  (env_of hL hSh) (twords_of hvar)).mono fun e W' ⟨he, bel⟩ => ?_
  subst he
  have hvar' : W'.var? Tryd.prog "loop.example/g00752/impl.tickWords" = some wordsRow := var?_below bel wordsAt (twords_of hvar).pos hvar
  exact ⟨_, rfl, _, _, _, [], _, _, hW', trodAll_mk1 (shut_bool Tryd.underlying4 _), (trodAll_cons_mk (shut_string Tryd.underlying9 w0) trodAll_mk0), trodVars_mk1 wordsAt wordsType hvar' (words_reads enc W' _), bel.frame _, fun h => by cases h⟩

theorem over : Rows.fnExactWorldReadRow.holds Tryd.pinned (OpenSpec.ofChange Rows.fnExactWorldReadSpec) :=
  OpenClaim.holds_of_wide 5 Tryd.f5 rfl rfl rfl rfl rfl rfl rfl ⟨rfl, rfl, rfl, rfl, rfl⟩ rfl rfl rfl rfl rfl (by kernel_rfl) Tryd.func5 (by kernel_rfl)
    (of_decide_eq_true (by kernel_rfl)) (by unfold Func.isWrapper; first | (rw [if_pos (by decide +kernel)]; kernel_rfl) | (rw [if_neg (by decide +kernel)]; exact ⟨rfl, rfl⟩))
    (fun os started H enc _ => lifted os started H enc)

theorem wants (j : Nat) (t : TypeId) (ht : Tryd.f5.params[j]? = some t) : Tryd.prog.wantsStandIn t = false := by
  rw [Tryd.params5] at ht
  match j, ht with
  | 0, ht => exact (show t = 9 from (Option.some.inj ht).symm) ▸ (show Tryd.prog.wantsStandIn 9 = false by kernel_rfl)
  | j + 1, ht => simp at ht
theorem proved : Rows.FnExactWorldReadCardSaid :=
  Claim7.holds_tied_plain_at .later [] _ _ _ _
    over (fun _ h => by cases h) (by kernel_rfl) (fun _ h => by cases h) fnExactWorldRead_row_tie rfl ⟨rfl, rfl⟩ (by kernel_rfl) rfl
    (fun f fn hf hfn => by
      obtain rfl : f = 5 := Option.some.inj ((show Tryd.prog.funcNamed "loop.example/g00752/laws.FnExactWorldRead" = some 5 by kernel_rfl).symm.trans hf) |>.symm
      obtain rfl : fn = Tryd.f5 := (Option.some.inj (Tryd.func5.symm.trans hfn)).symm
      exact ⟨by kernel_rfl, wants⟩)
    (by kernel_rfl)
#print axioms proved
end Go.Proofs.YtbadpmghlclfkaaDoor.fnExactWorldRead
