/- The laws' marks: a mark's text; secrets marked, and looked at again. -/
import Derived.Test.YtbadpmghlclfkaaDoorVaultT
import Derived.Laws.Concat
namespace Go.Proofs.YtbadpmghlclfkaaDoor
open Go.RowKit

/-- The digits of a number, ahead of what is there. -/
def dig (k : Nat) : UInt8 := UInt8.ofNat (48 + k % 10)
theorem dig_val (k : Nat) : ((dig k).toNat : Int) = 48 + (k : Int) % 10 := by
  unfold dig
  rw [UInt8.toNat_ofNat_of_lt' (by show _ < 256; omega)]
  omega
def digs : Nat → Nat → List UInt8 → List UInt8
  | 0, _, out => out
  | f + 1, k, out => if k = 0 then out else digs f (k / 10) (dig k :: out)
/-- A mark's text. -/
def noteT (k : Nat) : ByteArray := bytesOf (109 :: digs 20 k [])
theorem digs_zero (f : Nat) (out : List UInt8) : digs f 0 out = out := by cases f <;> rfl
theorem digs_step (f k : Nat) (out : List UInt8) (h : 0 < k) : digs (f + 1) k out = digs f (k / 10) (dig k :: out) := by
  rw [digs, if_neg (by omega)]
theorem bytesOf_append (l m : List UInt8) : (bytesOf l ++ bytesOf m : ByteArray) = bytesOf (l ++ m) := by
  apply ByteArray.ext
  rw [ByteArray.data_append]
  simp [bytesOf]
theorem one_byte_string {P : Program} {w : World} {g : Nat} {src dst e t : TypeId} (hs : P.underlying src = some (.slice e)) (he : P.underlying e = some (.int .u8)) (hd : P.underlying dst = some .string)
    (c : UInt8) (u : Int) (hu : u = (c.toNat : Int)) (hg : g = w.heap.size) : (convert src dst (.slice (some ⟨g, 0, none⟩) 1 1)).run P (w.alloc (.cells #[.int .u8 u] t)) = .ok (.string (bytesOf [c])) (w.alloc (.cells #[.int .u8 u] t)) := by
  subst hg
  have h : (w.alloc (.cells #[.int .u8 u] t)).heap[w.heap.size]? = some (.cells #[.int .u8 u] t (0, 0)) := heap_alloc_new w _
  exact block_string hs he hd h (n := 1) (l := [c]) rfl fun j hj => by
    match j, hj with
    | 0, _ => rw [hu]; rfl
set_option maxHeartbeats 2000000 in
theorem markText_any (k : Nat) (w : World) (hk : k ≤ 100000000) (h1 : 1 ≤ k) :
    Calls Tryd.prog 79 #[.int .i64 (k : Int)] w (Gives (.string (noteT k)) w) := by
  have hk1 : ¬ (k : Int) ≤ 0 := by omega
  go_enter Tryd.func79, Tryd.ntmps79
  go_wp2
  go_loopw [0, 3] (fun i v wr => ∃ (m f : Nat) (out : List UInt8), i = .int .i64 (m : Int) ∧ v = .string (bytesOf out) ∧ m ≤ 100000000 ∧ m < 10 ^ f ∧ Hid (out.length + f = 20) ∧ Hid (digs f m out = digs 20 k []) ∧ Hid (Below w.heap.size w wr)) (fun i _ _ => (intOf i).toNat)
  case atStart => exact ⟨k, 20, [], rfl, rfl, hk, by omega, Lib.hid rfl, Lib.hid rfl, Lib.hid (Below.refl _ _)⟩
  case round =>
    obtain ⟨m, f, out, rfl, rfl, hm, hf, hl, hd, hb⟩ := hrel
    by_cases h0 : 0 < m
    · have h0' : (0 : Int) < (m : Int) := by omega
      obtain ⟨f', rfl⟩ : ∃ f', f = f' + 1 := ⟨f - 1, by cases f with | zero => omega | succ n => rfl⟩
      have hcv := one_byte_string (P := Tryd.prog) (w := wr) (t := 5) Tryd.underlying22 Tryd.underlying5 Tryd.underlying9 (dig m) _ (dig_val m).symm rfl
      have hcat : (bytesOf [dig m] ++ bytesOf out : ByteArray) = bytesOf (dig m :: out) := bytesOf_append [dig m] out
      have hd2 := Lib.hid (show digs f' (m / 10) (dig m :: out) = digs 20 k [] by rw [← hd.out, digs_step f' m out h0])
      have hb2 := Lib.hid (hb.out.alloc hb.out.size (.cells #[.int .u8 (48 + (m : Int) % 10)] 5))
      have hm10 := Lib.hid (show m / 10 < 10 ^ f' by rw [Nat.div_lt_iff_lt_mul (by omega), ← Nat.pow_succ]; exact hf)
      have hsz : ¬ 9223372036854775807 < (bytesOf [dig m]).size + (bytesOf out).size := by rw [bytesOf_size, bytesOf_size]; have := hl.out; simp; omega
      have hl2 := Lib.hid (show (dig m :: out).length + f' = 20 by have := hl.out; simp; omega)
      clear hd hb hl hf
      go_wp2
      go_roundw
      case rel => exact ⟨m / 10, f', dig m :: out, by go_num, rfl, by omega, hm10.out, hl2, hd2, hb2⟩
      case measure => simp [intOf]; omega
    · have hm0 : m = 0 := by omega
      subst hm0
      have hd2 := Lib.hid (show out = digs 20 k [] by rw [← hd.out, digs_zero])
      have hcat : (bytesOf [109] ++ bytesOf out : ByteArray) = bytesOf (109 :: out) := bytesOf_append [109] out
      have h109 : (⟨#[109]⟩ : ByteArray) = bytesOf [109] := rfl
      have hsz : ¬ 9223372036854775807 < (bytesOf [109]).size + (bytesOf out).size := by rw [bytesOf_size, bytesOf_size]; have := hl.out; simp; omega
      clear hd hl
      go_wp2
      go_ret
      exact ⟨by rw [hd2.out]; rfl, hb.out⟩
theorem markText_at (z : Int) (k : Nat) (w : World) (hz : z = (k : Int)) (hk : k ≤ 100000000) (h1 : 1 ≤ k) :
    Calls Tryd.prog 79 #[.int .i64 z] w (Gives (.string (noteT k)) w) := by subst hz; exact markText_any k w hk h1
/-- A secret of marks, from k on; a row of such. -/
def markS (k : Nat) : Sec := ⟨noteT k, ((k + 1 : Nat) : Int), noteT (k + 2), noteT (k + 3)⟩
def markRow (k n : Nat) : List Sec := (List.range n).map fun i => markS (k + 4 * i)
theorem markRow_len (k n : Nat) : (markRow k n).length = n := by simp [markRow]
theorem markRow_at (k n i : Nat) (h : i < (markRow k n).length) : (markRow k n)[i] = markS (k + 4 * i) := by simp [markRow]
theorem markRow_succ (k n : Nat) : markRow k (n + 1) = markRow k n ++ [markS (k + 4 * n)] := by simp [markRow, List.range_succ]
theorem noteT_size (k : Nat) : (noteT k).size ≤ 50 := by
  have : ∀ f k out, (digs f k out).length ≤ out.length + f := by
    intro f
    induction f with
    | zero => intro k out; exact Nat.le_refl _
    | succ f ih =>
      intro k out
      unfold digs
      split
      · omega
      · have := ih (k / 10) (dig k :: out)
        simp only [List.length_cons] at this
        omega
  unfold noteT
  rw [bytesOf_size]
  have := this 20 k []
  simp at this ⊢
  omega
theorem markS_wf (k : Nat) (hk : k ≤ 100000000) : SecWf (markS k) := by
  have h1 := noteT_size k
  have h2 := noteT_size (k + 2)
  have h3 := noteT_size (k + 3)
  unfold SecWf markS maxLen
  exact ⟨by show (noteT k).size ≤ _; omega, by show (noteT (k + 2)).size ≤ _; omega, by show (noteT (k + 3)).size ≤ _; omega, by show -9223372036854775808 ≤ ((k + 1 : Nat) : Int); omega, by show ((k + 1 : Nat) : Int) ≤ _; omega⟩
theorem markRow_wf (k n : Nat) (h : k + 4 * n ≤ 100000000) : ∀ x ∈ markRow k n, SecWf x := by
  intro x hx
  obtain ⟨i, hi, rfl⟩ := List.mem_map.1 hx
  exact markS_wf _ (by have := List.mem_range.1 hi; omega)
/-- One more secret of a row is marked. -/
theorem markRow_set {k i : Nat} {l : List Sec} (hi : i < l.length) :
    ((((secRow (markRow k i ++ l.drop i)).set (i * 4) (.string (noteT (k + 4 * i)))).set (i * 4 + 1) (.int .i64 ((k + 4 * i + 1 : Nat) : Int))).set (i * 4 + 2) (.string (noteT (k + 4 * i + 2)))).set (i * 4 + 3) (.string (noteT (k + 4 * i + 3)))
      = secRow (markRow k (i + 1) ++ l.drop (i + 1)) := by
  have e1 : secRow (markRow k i ++ l.drop i) = secRow (markRow k i) ++ (secV l[i] ++ secRow (l.drop (i + 1))) := by
    rw [List.drop_eq_getElem_cons hi]; unfold secRow; rw [List.flatMap_append, List.flatMap_cons]
  have e2 : secRow (markRow k (i + 1) ++ l.drop (i + 1)) = secRow (markRow k i) ++ (secV (markS (k + 4 * i)) ++ secRow (l.drop (i + 1))) := by
    rw [markRow_succ]; unfold secRow; rw [List.flatMap_append, List.flatMap_append, List.flatMap_cons, List.flatMap_nil, List.append_nil, List.append_assoc]
  have hl : (secRow (markRow k i)).length = i * 4 := by rw [secRow_len, markRow_len]
  rw [e1, e2]
  rw [List.set_append, if_neg (by omega), hl, Nat.sub_self, List.set_append, if_neg (by omega), hl, show i * 4 + 1 - i * 4 = 1 by omega, List.set_append, if_neg (by omega), hl, show i * 4 + 2 - i * 4 = 2 by omega, List.set_append, if_neg (by omega), hl, show i * 4 + 3 - i * 4 = 3 by omega]
  rfl
/-- A row marked. -/
def MarkedEnd (base k n : Nat) (v : Value) (w : World) (e : Ending) (w' : World) : Prop := e = .returned (.int .i64 ((k + 4 * n : Nat) : Int)) ∧ OwnSecs w' base v (markRow k n) ∧ w.grownBy w' v.ownBlock
set_option maxHeartbeats 1000000 in
theorem markSecs_any (v : Value) (l : List Sec) (k base : Nat) (w : World) (hk : k + 4 * l.length ≤ 10000000) (h1 : 1 ≤ k) (hv : OwnSecs w base v l) :
    Calls Tryd.prog 37 #[v, .int .i64 (k : Int)] w (MarkedEnd base k l.length v w) := by
  obtain ⟨hl, hwf, g, rfl, hbg, hblk⟩ := hv
  replace hblk := Lib.hid (show Blk w g 100 (secRow (markRow k 0 ++ l.drop 0)) from hblk)
  replace hwf := Lib.hid hwf
  go_enter Tryd.func37, Tryd.ntmps37
  go_wp2
  go_loopw [1, 5] (fun u j wr => ∃ i : Nat, i ≤ l.length ∧ j = .int .i64 (i : Int) ∧ u = .int .i64 ((k + 4 * i : Nat) : Int) ∧ Hid (Blk wr g 100 (secRow (markRow k i ++ l.drop i))) ∧ Hid (w.grownBy wr (some g))) (fun _ j _ => l.length - (intOf j).toNat)
  case atStart => exact ⟨0, Nat.zero_le _, rfl, rfl, hblk, Lib.hid (World.grownBy.refl _ _)⟩
  case round =>
    obtain ⟨i, hi, rfl, rfl, hr, hg⟩ := hrel
    have hlen := Lib.hid (show (secRow (markRow k i ++ l.drop i)).length = l.length * 4 by rw [secRow_len, List.length_append, markRow_len, List.length_drop, Nat.add_sub_cancel' hi])
    by_cases hlt : i < l.length
    · have hlt' : (i : Int) < (l.length : Int) := by omega
      have hset := markRow_set (k := k) hlt
      obtain ⟨K, hK⟩ : ∃ K, K = k + 4 * i := ⟨_, rfl⟩
      rw [← hK]
      rw [← hK, show ((K + 1 : Nat) : Int) = (K : Int) + 1 from rfl] at hset
      replace hset := Lib.hid hset
      have hKb : K ≤ 10000000 ∧ 1 ≤ K := by omega
      replace hK := Lib.hid hK
      go_wp2_with (go_at_call_of 79 (Value.int .i64 (K : Int)); refine (markText_at _ K _ rfl (by omega) (by omega)).mono ?_; rintro e w2 ⟨rfl, hb2⟩; replace hr := Lib.hid (hr.out.up hb2); replace hg := Lib.hid (grown_up hg.out hb2); clear hb2; have d0 := hr.out.cell (i * 4) (by rw [hlen.out]; omega); have d1 := hr.out.cell (i * 4 + 1) (by rw [hlen.out]; omega); have f0 := hr.out.free (i * 4); have f1 := hr.out.free (i * 4 + 1))
      go_wp2_with (go_at_call 79; refine (markText_at _ (K + 2) _ (by omega) (by omega) (by omega)).mono ?_; rintro e w3 ⟨rfl, hb3⟩; replace hr := Lib.hid (((hr.out.set (i * 4) (.string (noteT K))).set (i * 4 + 1) (.int .i64 ((K : Int) + 1))).up hb3); replace hg := Lib.hid (grown_up (grown_put (grown_put hg.out (i * 4) (.string (noteT K))) (i * 4 + 1) (.int .i64 ((K : Int) + 1))) hb3); clear hb3 d0 d1 f0 f1; have d2 := hr.out.cell (i * 4 + 2) (by rw [List.length_set, List.length_set, hlen.out]; omega); have f2 := hr.out.free (i * 4 + 2))
      go_wp2_with (go_at_call 79; refine (markText_at _ (K + 3) _ (by omega) (by omega) (by omega)).mono ?_; rintro e w4 ⟨rfl, hb4⟩; replace hr := Lib.hid ((hr.out.set (i * 4 + 2) (.string (noteT (K + 2)))).up hb4); replace hg := Lib.hid (grown_up (grown_put hg.out (i * 4 + 2) (.string (noteT (K + 2)))) hb4); clear hb4 d2 f2; have d3 := hr.out.cell (i * 4 + 3) (by rw [List.length_set, List.length_set, List.length_set, hlen.out]; omega); have f3 := hr.out.free (i * 4 + 3))
      have hr5 := hr.out.set (i * 4 + 3) (.string (noteT (K + 3)))
      rw [hset.out] at hr5
      replace hr5 := Lib.hid hr5
      have hg5 := Lib.hid (grown_put hg.out (i * 4 + 3) (.string (noteT (K + 3))))
      clear hr hg
      go_roundw
      case rel => exact ⟨i + 1, by omega, by go_num, by have := hK.out; congr 1; omega, hr5, hg5⟩
      case measure => simp [intOf]; omega
    · have hil : i = l.length := by omega
      subst hil
      have hO := Lib.hid (show OwnSecs wr base (.slice (some ⟨g, 0, none⟩) l.length l.length) (markRow k l.length) from ⟨by rw [markRow_len]; exact hl, markRow_wf _ _ (by omega), g, by rw [markRow_len], hbg, by have := hr.out; rw [List.drop_of_length_le (Nat.le_refl _), List.append_nil] at this; exact this⟩)
      clear hr
      go_wp2
      go_ret
      exact ⟨rfl, hO.out, hg.out⟩
end Go.Proofs.YtbadpmghlclfkaaDoor
