/- WorldText of the program answers as that of the model, at every list of ticks; it writes into none. Two conditions, tied to the program's text by the card: the package variable tickWords holds the ticks' words, and the library's table uint64pow10 the powers of ten. -/
import Derived.Test.YtbadpmghlclfkaaDoorRows
import Derived.Test.YtbadpmghlclfkaaDoorCards
import Derived.Test.YtbadpmghlclfkaaDoorTie
import Derived.WalkKit
import Derived.ProofKit
import Derived.OpenShut
import Derived.ShutString
import Derived.ChangeOld
import Derived.Below
import Derived.ChangeSame
import Derived.ChangeVars
import Derived.JoinedOf
import Derived.RowKit
import Derived.RowKitTokens
import Derived.LaidLaws
import Derived.LaidHandle
import Derived.Lay
import Derived.MakeChecks
import Derived.Lib.LaidTab
import Derived.Lib.LaidU8
import Derived.Stop.LaidErr
import Derived.WalkSmall
import Derived.Stop.Joined
import Derived.SevenTiedAt
import Derived.Test.YtbadpmghlclfkaaDoorTckI
import Derived.Test.YtbadpmghlclfkaaDoorTckO
namespace Go.Proofs.YtbadpmghlclfkaaDoor.fnExactWorldText
open Go.ChangeShapes Go.WideShapes Go.ChangeAt Go.RowKit
open Go.ChangeMaps (open_string shut_string)
set_option linter.unusedVariables false


set_option maxHeartbeats 4000000 in
theorem walk (A : Option Addr) (len cap : Nat) (l : List Tik) (w : World) (el : l.length = len) (hs : Tiks w (.slice A len cap) l) (hP : Pow w) (hT : TWords w) :
    Calls Tryd.prog 4 #[.slice A len cap] w fun e w' => e = .returned (.bool true) ∧ Below w.heap.size w w' := by
  subst el
  have hs0 := Lib.hid hs
  have hP0 := Lib.hid hP
  have hT0 := Lib.hid hT
  clear hs hP hT
  have hW := Lib.hid (Below.refl w.heap.size w)
  go_enter Tryd.func4, Tryd.ntmps4
  go_wp2_with (go_at_call 19; refine (szTicks_any _ l 1048576 _ (hs0.out.below hW.out) (by omega) (by omega)).mono ?_; rintro e w1 ⟨r, rfl, hr, hb⟩; replace hW := Lib.hid (Below.then_ hW.out hb (Nat.le_refl _)); clear hb; rcases hr with rfl | ⟨hr0, hr1, hsm⟩)
  · go_wp2
    go_ret
    exact ⟨rfl, hW.out⟩
  · have hr2 : ¬ r < 0 := by omega
    have hl := hsm.1
    clear hsm
    obtain ⟨t, ht⟩ : ∃ t, t = textW l := ⟨_, rfl⟩
    have hSP := Lib.hid (fun v w (h : Tiks w v l) => show Calls Tryd.prog 13 #[v] w (Gives (.string t) w) from by rw [ht]; exact specWorldText_any v l w h)
    have hIM := Lib.hid (fun v w (h : Tiks w v l) (hE : Pow w) (hT : TWords w) => show Calls Tryd.prog 8 #[v] w (Gives (.string t) w) from by rw [ht]; exact implWorldText_any v l w h hE hT)
    clear ht
    go_wp2_with (go_at_call 20; refine (toTicks_any _ l _ (hs0.out.below hW.out) hl).mono ?_; rintro e w1 ⟨v_o1, rfl, o1, hb⟩; replace hW := Lib.hid (Below.then_ hW.out hb (Nat.le_refl _)); replace o1 := Lib.hid o1; clear hb)
    go_wp2_with (go_at_call 13; refine (hSP.out _ _ o1.out.tiks).mono ?_; rintro e w1 ⟨rfl, hb⟩; replace hW := Lib.hid (Below.then_ hW.out hb (Nat.le_refl _)); clear hb)
    clear o1
    go_wp2_with (go_at_call 20; refine (toTicks_any _ l _ (hs0.out.below hW.out) hl).mono ?_; rintro e w1 ⟨v_o2, rfl, o2, hb⟩; replace hW := Lib.hid (Below.then_ hW.out hb (Nat.le_refl _)); replace o2 := Lib.hid o2; clear hb)
    go_wp2_with (go_at_call 8; refine (hIM.out _ _ o2.out.tiks (hP0.out.below hW.out) (hT0.out.below hW.out)).mono ?_; rintro e w1 ⟨rfl, hb⟩; replace hW := Lib.hid (Below.then_ hW.out hb (Nat.le_refl _)); replace o2 := Lib.hid (o2.out.below hb); clear hb)
    go_wp2_with (go_at_call 20; refine (toTicks_any _ l _ (hs0.out.below hW.out) hl).mono ?_; rintro e w1 ⟨v_o3, rfl, o3, hb⟩; replace hW := Lib.hid (Below.then_ hW.out hb (Nat.le_refl _)); replace o2 := Lib.hid (o2.out.below hb); replace o3 := Lib.hid o3; clear hb)
    go_wp2_with (go_at_call 21; refine (eqTicks_same _ _ l _ o2.out.tiks o3.out.tiks).mono ?_; rintro e w1 ⟨rfl, hb⟩; replace hW := Lib.hid (Below.then_ hW.out hb (Nat.le_refl _)); clear hb)
    go_ret
    exact ⟨rfl, hW.out⟩

theorem own : ownKnob Tryd.prog.godebug = none := by kernel_rfl
theorem laidOut : laidOutB Tryd.prog = true := by kernel_rfl
theorem pow_of_laid {W : World} (h : laidMet Tryd.prog Rows.fnExactWorldTextRow.laid W) : Pow W := by
  have h1 : laidMet Tryd.prog (("internal/strconv.uint64pow10", Lib.tabData .u64 Lib.pow10Tab) :: _) W := h.tail.tail
  have hT := Lib.tabIs_of_head Tryd.named_pow (show (Tryd.prog.globals[2]?).map (·.type) = some 170 by kernel_rfl) Tryd.underlying170 Tryd.underlying114 (by kernel_rfl) (by kernel_rfl) h1
  exact ⟨World.block_lt_of_cell? W _ (hT.cell Tryd.named_pow 0 (by rw [Lib.pow10Tab_length]; omega)), hT⟩
theorem wordsAt : Tryd.prog.globalNamed "loop.example/g00752/impl.tickWords" = some 0 := by kernel_rfl
theorem wordsType : (Tryd.prog.globals[0]?).map (·.type) = some 111 := by kernel_rfl
theorem wordsCells : Tryd.prog.cellsOf 111 = 6 := by kernel_rfl
theorem oneString : Tryd.prog.cellsOf 9 = 1 := by kernel_rfl
/-- What the variable's cells hold. -/
def wordsRow : Array Value := #[.string ⟨#[]⟩, .string ⟨#[115, 97, 121, 115]⟩, .string ⟨#[115, 104, 111, 119]⟩, .string ⟨#[104, 105, 100, 101]⟩, .string ⟨#[111, 118, 101, 114]⟩, .string ⟨#[116, 105, 109, 101]⟩]
abbrev wordsData {H : Type} : DataW H := .agg [.lit (.string []), .lit (.string [115, 97, 121, 115]), .lit (.string [115, 104, 111, 119]), .lit (.string [104, 105, 100, 101]), .lit (.string [111, 118, 101, 114]), .lit (.string [116, 105, 109, 101])]
theorem words_reads {H : Type} (enc : TypeId × Value → H) (W : World) (sp : Nat → Bool) : DataW.trod enc Tryd.prog W 0 sp true 3 111 wordsRow.toList = some (wordsData, []) := by kernel_rfl
theorem str_eq {s : ByteArray} {l : List UInt8} (h : s.data.toList = l) : s = ⟨l.toArray⟩ := by subst h; cases s; simp
theorem words_of_trod {H : Type} {enc : TypeId × Value → H} {W : World} {base : Nat} {sp : Nat → Bool} {held : Bool} {fuel : Nat} {cs : List Value} {p : List MemPlace}
    (h : DataW.trod enc Tryd.prog W base sp held fuel 111 cs = some (wordsData, p)) : cs = wordsRow.toList := by
  cases fuel with
  | zero => simp [DataW.trod] at h
  | succ fuel =>
    simp only [DataW.trod, Tryd.underlying111, wordsCells, oneString] at h
    split at h
    · rename_i hl
      obtain ⟨c0, c1, c2, c3, c4, c5, rfl⟩ : ∃ c0 c1 c2 c3 c4 c5, cs = [c0, c1, c2, c3, c4, c5] := by
        match cs, hl with
        | [x0, x1, x2, x3, x4, x5], _ => exact ⟨x0, x1, x2, x3, x4, x5, rfl⟩
      have e : List.range 6 = [0, 1, 2, 3, 4, 5] := rfl
      rw [e] at h
      simp only [Option.map_eq_some_iff, List.mapM_cons, List.mapM_nil, Option.bind_eq_bind, Option.bind_eq_some_iff, Option.pure_def, Option.some.injEq] at h
      obtain ⟨xs, ⟨y0, h0, _, ⟨y1, h1, _, ⟨y2, h2, _, ⟨y3, h3, _, ⟨y4, h4, _, ⟨y5, h5, _, rfl, rfl⟩, rfl⟩, rfl⟩, rfl⟩, rfl⟩, rfl⟩, hx⟩ := h
      obtain ⟨n0, e0, z0, _⟩ := DataW.trod_string Tryd.underlying9 h0
      obtain ⟨n1, e1, z1, _⟩ := DataW.trod_string Tryd.underlying9 h1
      obtain ⟨n2, e2, z2, _⟩ := DataW.trod_string Tryd.underlying9 h2
      obtain ⟨n3, e3, z3, _⟩ := DataW.trod_string Tryd.underlying9 h3
      obtain ⟨n4, e4, z4, _⟩ := DataW.trod_string Tryd.underlying9 h4
      obtain ⟨n5, e5, z5, _⟩ := DataW.trod_string Tryd.underlying9 h5
      simp only [wordsData, z0, z1, z2, z3, z4, z5, Prod.mk.injEq, DataW.agg.injEq, List.map_cons, List.map_nil, List.cons.injEq, DataW.lit.injEq, Lit.string.injEq, and_true] at hx
      simp at e0 e1 e2 e3 e4 e5
      obtain ⟨⟨t0, t1, t2, t3, t4, t5⟩, _⟩ := hx
      rw [e0, e1, e2, e3, e4, e5, str_eq t0, str_eq t1, str_eq t2, str_eq t3, str_eq t4, str_eq t5]
      rfl
    · cases h
theorem words_of_laid {W : World} (h : laidMet Tryd.prog Rows.fnExactWorldTextRow.laid W) : W.var? Tryd.prog "loop.example/g00752/impl.tickWords" = some wordsRow := by
  obtain ⟨g, t, cs, fuel, p, hg, ht, hvar, hd⟩ := Lib.laidMet.reads h (n := "loop.example/g00752/impl.tickWords") (d := wordsData) (by exact (.tail _ (.tail _ (.tail _ (.head _)))))
  obtain rfl := Option.some.inj (wordsAt.symm.trans hg)
  obtain rfl := Option.some.inj (wordsType.symm.trans ht)
  rw [hvar]
  congr 1
  obtain ⟨l⟩ := cs
  exact congrArg List.toArray (words_of_trod hd)
theorem twords_of {W : World} (h : W.var? Tryd.prog "loop.example/g00752/impl.tickWords" = some wordsRow) : TWords W := by
  intro k hk
  have hc := World.var?_cell wordsAt h k
  rcases (show k = 0 ∨ k = 1 ∨ k = 2 ∨ k = 3 ∨ k = 4 ∨ k = 5 by omega) with rfl | rfl | rfl | rfl | rfl | rfl <;> exact hc

set_option maxRecDepth 100000 in
theorem lifted (os : Os) (started : os.Started) (H : Type) (enc : TypeId × Value → H) :
    ReturnsInHanded {} Tryd.checked os 4 .any (fun w args => (Rows.fnExactWorldTextSpec.pre enc Tryd.prog Tryd.f4 [] false w args ∧ laidMetH Tryd.prog Rows.fnExactWorldTextRow.laid w) ∧ sizedMet enc Tryd.prog Tryd.f4 (OpenSpec.ofChange Rows.fnExactWorldTextSpec) false w args)
      (Rows.fnExactWorldTextSpec.post enc Tryd.prog Tryd.f4 false true false false) := by
  refine returnsInHanded_of_change_and (C := Tryd.checked) (X := fun w _ => laidMetH Tryd.prog Rows.fnExactWorldTextRow.laid w) (fun _ _ _ hh h => h.of_heap hh) own started (by kernel_rfl) Tryd.func4
    (ChangeSpec.witness_shaped (enc := enc) (C := Tryd.checked) (os := os) (X := fun w _ => laidMetH Tryd.prog Rows.fnExactWorldTextRow.laid w) false (World.laidAll Tryd.prog os Rows.fnExactWorldTextRow.laid) #[.slice none 0 0] 8 (World.laidAll_os _ _ _)
      (World.shaped_of_ZipB (by kernel_rfl) (by kernel_rfl)) (by kernel_rfl) (by kernel_rfl) (by kernel_rfl)
      (by rw [MakeChecks.laidMetH_plain _ _ _ (by kernel_rfl)]; exact laidMet_laidAll _ (by kernel_rfl) (by kernel_rfl))) ?_
  intro W base args ds gs before hval0 hW _ _ hL _
  have hval : ∀ (j : Nat) t v, Tryd.f4.params[j]? = some t → args[j]? = some v → Value.okWide Tryd.prog W .any base t v := hval0
  rw [MakeChecks.laidMetH_plain _ _ _ (by kernel_rfl)] at hL
  have hW' := hW
  obtain ⟨p, q, hA0, hV0, rfl, hfz, hnd⟩ := hW
  have hA : DataW.TrodAll enc Tryd.prog W 0 (fun _ => true) true Tryd.f4.params.toList args.toList ds p := hA0
  have hV : DataW.TrodVars enc Tryd.prog W (fun _ => true) ["loop.example/g00752/impl.tickWords"] gs q := hV0
  rw [Tryd.params4] at hA hval
  obtain ⟨v0, vs0, d0, ds0, p0, q0, hargs, rfl, rfl, h0, r0⟩ := trodAll_cons hA
  obtain ⟨rfl, rfl, rfl⟩ := trodAll_nil r0
  obtain rfl : args = #[v0] := by cases args; simp_all
  obtain ⟨g, t, cs, fuel, d, p', rfl, hgn, htn, hvar, hd, rfl⟩ := trodVars_one hV
  obtain rfl := Option.some.inj (wordsAt.symm.trans hgn)
  obtain rfl := Option.some.inj (wordsType.symm.trans htn)
  obtain rfl : cs = wordsRow := Option.some.inj (hvar.symm.trans (words_of_laid hL))
  obtain ⟨rfl, rfl⟩ := DataW.Trod.unique (v := .agg wordsRow) ⟨fuel, hd⟩ ⟨3, words_reads enc W _⟩
  obtain ⟨a0, len0, cap0, rfl⟩ := okWide_slice Tryd.underlying37 (hval 0 37 v0 rfl rfl)
  have k0 := h0
  have lt0 : ∀ x ∈ p0, x.block < W.heap.size := by obtain ⟨m, hm⟩ := k0; exact DataW.trod_lt m _ _ _ hm
  obtain ⟨l0, e0, w0⟩ := tiks_open h0
  clear hA0 hval0
  refine (walk a0 len0 cap0 l0 W e0 w0 (pow_of_laid hL) (twords_of hvar)).mono fun e W' ⟨he, bel⟩ => ?_
  subst he
  have hvar' : W'.var? Tryd.prog "loop.example/g00752/impl.tickWords" = some wordsRow := var?_below bel wordsAt (twords_of hvar).pos hvar
  exact ⟨_, rfl, _, _, _, [], _, _, hW', trodAll_mk1 (shut_bool Tryd.underlying4 _), (trodAll_cons_mk (Below.trod laidOut (by kernel_rfl) (of_decide_eq_true (by kernel_rfl)) k0 bel lt0) trodAll_mk0), trodVars_mk1 wordsAt wordsType hvar' (words_reads enc W' _), bel.frame _, fun h => by cases h⟩

theorem over : Rows.fnExactWorldTextRow.holds Tryd.pinned (OpenSpec.ofChange Rows.fnExactWorldTextSpec) :=
  OpenClaim.holds_of_wide 4 Tryd.f4 rfl rfl rfl rfl rfl rfl rfl ⟨rfl, rfl, rfl, rfl, rfl⟩ rfl rfl rfl rfl rfl (by kernel_rfl) Tryd.func4 (by kernel_rfl)
    (of_decide_eq_true (by kernel_rfl)) (by unfold Func.isWrapper; first | (rw [if_pos (by decide +kernel)]; kernel_rfl) | (rw [if_neg (by decide +kernel)]; exact ⟨rfl, rfl⟩))
    (fun os started H enc _ => lifted os started H enc)

theorem wants (j : Nat) (t : TypeId) (ht : Tryd.f4.params[j]? = some t) : Tryd.prog.wantsStandIn t = false := by
  rw [Tryd.params4] at ht
  match j, ht with
  | 0, ht => exact (show t = 37 from (Option.some.inj ht).symm) ▸ (show Tryd.prog.wantsStandIn 37 = false by kernel_rfl)
  | j + 1, ht => simp at ht
theorem proved : Rows.FnExactWorldTextCardSaid :=
  Claim7.holds_tied_plain_at .later [] _ _ _ _
    over (fun _ h => by cases h) (by kernel_rfl) (fun _ h => by cases h) fnExactWorldText_row_tie rfl ⟨rfl, rfl⟩ (by kernel_rfl) rfl
    (fun f fn hf hfn => by
      obtain rfl : f = 4 := Option.some.inj ((show Tryd.prog.funcNamed "loop.example/g00752/laws.FnExactWorldText" = some 4 by kernel_rfl).symm.trans hf) |>.symm
      obtain rfl : fn = Tryd.f4 := (Option.some.inj (Tryd.func4.symm.trans hfn)).symm
      exact ⟨by kernel_rfl, wants⟩)
    (by kernel_rfl)
#print axioms proved
end Go.Proofs.YtbadpmghlclfkaaDoor.fnExactWorldText
