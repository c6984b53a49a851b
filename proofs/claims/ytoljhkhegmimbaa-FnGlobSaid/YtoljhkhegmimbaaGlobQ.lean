/- GlobQuote: the glob of just one text; of the model, and of the program. -/
import Derived.Test.YtoljhkhegmimbaaGlobP
namespace Go.Proofs.Ytoljhkhegmimbaa
open Go.RowKit

def special (c : UInt8) : Bool := c == 42 || c == 63 || c == 92
def quoteC (c : UInt8) : List UInt8 := if special c then [92, c] else [c]
def quoteL (l : List UInt8) : List UInt8 := l.flatMap quoteC
def quoteT (l : List UInt8) : List UInt8 := if l.length ≤ 40 ∧ (quoteL l).length ≤ 40 then quoteL l else []
theorem take_at {s : ByteArray} {k : Nat} (h : k < s.size) : s.data.toList.take (k + 1) = s.data.toList.take k ++ [s[k]] := by
  rw [List.take_succ_eq_append_getElem (by simpa using h)]; rfl
theorem quoteL_snoc (l : List UInt8) (c : UInt8) : quoteL (l ++ [c]) = quoteL l ++ quoteC c := by simp [quoteL]
theorem quoteL_len (l : List UInt8) : (quoteL l).length ≤ 2 * l.length := by
  induction l with
  | nil => simp [quoteL]
  | cons c l ih =>
    have e : quoteL (c :: l) = quoteC c ++ quoteL l := rfl
    have : (quoteC c).length ≤ 2 := by unfold quoteC; split <;> simp
    rw [e, List.length_append, List.length_cons]; omega
theorem quote_two {s : ByteArray} {k : Nat} (h : k < s.size) (hs : special s[k] = true) : quoteL (s.data.toList.take (k + 1)) = quoteL (s.data.toList.take k) ++ [92] ++ [s[k]] := by
  rw [take_at h, quoteL_snoc, quoteC, hs, if_pos rfl]; simp
theorem quote_one {s : ByteArray} {k : Nat} (h : k < s.size) (hs : special s[k] = false) : quoteL (s.data.toList.take (k + 1)) = quoteL (s.data.toList.take k) ++ [s[k]] := by
  rw [take_at h, quoteL_snoc, quoteC, hs, if_neg (by decide)]
theorem quote_room {s : ByteArray} {k : Nat} (hs : s.size ≤ 40) : (quoteL (s.data.toList.take k)).length ≤ 80 := by
  have := quoteL_len (s.data.toList.take k)
  have h2 : (s.data.toList.take k).length ≤ s.size := Nat.le_trans (List.length_take_le' _ _) (by simp)
  omega
theorem Try.ginfo5 : (Try.prog.info? 5).map (fun i => (i.zero, i.size, i.bytes)) = some (some (.int .u8 0), 1, 1) := by kernel_rfl
theorem byte_int {c : UInt8} (n : Nat) (h : c = UInt8.ofNat n) (hn : n < 256) : (n : Int) = (c.toNat : Int) := by
  subst h; rw [UInt8.toNat_ofNat_of_lt' hn]
theorem short0 {l : List UInt8} (h : l.length ≤ 80) : l.length < 70368744177664 := by omega
theorem short1 {l : List UInt8} {c : UInt8} (h : l.length ≤ 80) : (l ++ [c]).length < 70368744177664 := by rw [List.length_append, List.length_singleton]; omega
theorem strV_empty : strV [] = .string { data := #[] } := rfl
theorem own_len {w : World} {base : Nat} {e : TypeId} {v : Value} {l : List UInt8} (h : OwnBytes w base e v l) : ∃ A cap, v = .slice A l.length cap := own_slice h

set_option maxRecDepth 20000 in
set_option maxHeartbeats 2000000 in
theorem specQuote_any (s : ByteArray) (hp : s.size ≤ 1048576) (w : World) :
    Calls Try.prog 19 #[.string s] w fun e w' => e = .returned (strV (quoteT s.data.toList)) ∧ Below w.heap.size w w' := by
  obtain ⟨i0, hi, hz0, hz1, hz2⟩ := info_parts Try.ginfo5
  have hsz := Lib.hid (size_data s)
  by_cases hs : s.size ≤ 40
  · go_enter Try.func19, Try.ntmps19
    go_wp2
    go_loopw [3, 4] (fun v i wr => ∃ k : Nat, k ≤ s.size ∧ i = .int .i64 (k : Int) ∧ OwnBytes wr w.heap.size 5 v (quoteL (s.data.toList.take k)) ∧ Below w.heap.size w wr) (fun _ i _ => s.size - (intOf i).toNat)
    case atStart => exact ⟨0, Nat.zero_le _, rfl, World.ownsRow_made w #[] 0 (Nat.le_refl _) (by simp) rfl, (Below.refl _ _).alloc (Nat.le_refl _) _⟩
    case round =>
      obtain ⟨k, hk, rfl, hown, hbel⟩ := hrel
      have hlen := Lib.hid (quote_room (k := k) hs)
      by_cases hlt : k < s.size
      · have hown := Lib.hid hown
        have hbel := Lib.hid hbel
        have hsp := Lib.hid (show special s[k] = (s[k] == 42 || s[k] == 63 || s[k] == 92) from rfl)
        by_cases h1 : s[k] = 42
        · have t1 : ((s[k].toNat : Int) == 42) = true := is_byte (c := s[k]) 42 h1 (by decide)
          have hq := Lib.hid (quote_two hlt (by rw [hsp.out]; simp [h1]))
          clear hsp h1
          go_wp2_with (first
            | ((with_reducible show wpList _ _ _ (⟨some 33, _, _, _, _, _⟩ :: _) _ _); refine wpList_append_byte rfl (.tmp 31) (.tmp 32) 22 rfl w.heap.size 5 i0 Try.underlying22 hi hz0 hz1 hz2 _ _ rfl (hown.out.alloc _) _ 92 rfl (new_byte _ _ _ _ (by decide)) (short0 hlen.out) (hbel.out.alloc hbel.out.size _) (by have := hbel.out.size; simp; omega) ?_; intro v1 w1 ho1 hb1; replace ho1 := Lib.hid ho1; replace hb1 := Lib.hid hb1)
            | ((with_reducible show wpList _ _ _ (⟨some 39, _, _, _, _, _⟩ :: _) _ _); refine wpList_append_byte rfl (.tmp 34) (.tmp 38) 22 rfl w.heap.size 5 i0 Try.underlying22 hi hz0 hz1 hz2 _ _ rfl (ho1.out.alloc _) _ s[k] rfl (new_byte _ _ _ _ rfl) (short1 hlen.out) (hb1.out.alloc hb1.out.size _) (by have := hb1.out.size; simp; omega) ?_; intro v2 w2 ho2 hb2; replace ho2 := Lib.hid ho2; replace hb2 := Lib.hid hb2))
          go_roundw
          case rel => exact ⟨k + 1, by omega, by go_num, by rw [hq.out]; exact ho2.out, hb2.out⟩
          case measure => simp [intOf]; omega
        · have t1 : ((s[k].toNat : Int) == 42) = false := not_byte (c := s[k]) 42 h1 (by decide)
          by_cases h2 : s[k] = 63
          · have t2 : ((s[k].toNat : Int) == 63) = true := is_byte (c := s[k]) 63 h2 (by decide)
            have hq := Lib.hid (quote_two hlt (by rw [hsp.out]; simp [h2]))
            clear hsp h1 h2
            go_wp2_with (first
              | ((with_reducible show wpList _ _ _ (⟨some 33, _, _, _, _, _⟩ :: _) _ _); refine wpList_append_byte rfl (.tmp 31) (.tmp 32) 22 rfl w.heap.size 5 i0 Try.underlying22 hi hz0 hz1 hz2 _ _ rfl (hown.out.alloc _) _ 92 rfl (new_byte _ _ _ _ (by decide)) (short0 hlen.out) (hbel.out.alloc hbel.out.size _) (by have := hbel.out.size; simp; omega) ?_; intro v1 w1 ho1 hb1; replace ho1 := Lib.hid ho1; replace hb1 := Lib.hid hb1)
              | ((with_reducible show wpList _ _ _ (⟨some 39, _, _, _, _, _⟩ :: _) _ _); refine wpList_append_byte rfl (.tmp 34) (.tmp 38) 22 rfl w.heap.size 5 i0 Try.underlying22 hi hz0 hz1 hz2 _ _ rfl (ho1.out.alloc _) _ s[k] rfl (new_byte _ _ _ _ rfl) (short1 hlen.out) (hb1.out.alloc hb1.out.size _) (by have := hb1.out.size; simp; omega) ?_; intro v2 w2 ho2 hb2; replace ho2 := Lib.hid ho2; replace hb2 := Lib.hid hb2))
            go_roundw
            case rel => exact ⟨k + 1, by omega, by go_num, by rw [hq.out]; exact ho2.out, hb2.out⟩
            case measure => simp [intOf]; omega
          · have t2 : ((s[k].toNat : Int) == 63) = false := not_byte (c := s[k]) 63 h2 (by decide)
            by_cases h3 : s[k] = 92
            · have t3 : ((s[k].toNat : Int) == 92) = true := is_byte (c := s[k]) 92 h3 (by decide)
              have hq := Lib.hid (quote_two hlt (by rw [hsp.out]; simp [h3]))
              clear hsp h1 h2 h3
              go_wp2_with (first
                | ((with_reducible show wpList _ _ _ (⟨some 33, _, _, _, _, _⟩ :: _) _ _); refine wpList_append_byte rfl (.tmp 31) (.tmp 32) 22 rfl w.heap.size 5 i0 Try.underlying22 hi hz0 hz1 hz2 _ _ rfl (hown.out.alloc _) _ 92 rfl (new_byte _ _ _ _ (by decide)) (short0 hlen.out) (hbel.out.alloc hbel.out.size _) (by have := hbel.out.size; simp; omega) ?_; intro v1 w1 ho1 hb1; replace ho1 := Lib.hid ho1; replace hb1 := Lib.hid hb1)
                | ((with_reducible show wpList _ _ _ (⟨some 39, _, _, _, _, _⟩ :: _) _ _); refine wpList_append_byte rfl (.tmp 34) (.tmp 38) 22 rfl w.heap.size 5 i0 Try.underlying22 hi hz0 hz1 hz2 _ _ rfl (ho1.out.alloc _) _ s[k] rfl (new_byte _ _ _ _ rfl) (short1 hlen.out) (hb1.out.alloc hb1.out.size _) (by have := hb1.out.size; simp; omega) ?_; intro v2 w2 ho2 hb2; replace ho2 := Lib.hid ho2; replace hb2 := Lib.hid hb2))
              go_roundw
              case rel => exact ⟨k + 1, by omega, by go_num, by rw [hq.out]; exact ho2.out, hb2.out⟩
              case measure => simp [intOf]; omega
            · have t3 : ((s[k].toNat : Int) == 92) = false := not_byte (c := s[k]) 92 h3 (by decide)
              have hq := Lib.hid (quote_one hlt (by rw [hsp.out]; simp [h1, h2, h3]))
              clear hsp h1 h2 h3
              go_wp2_with ((with_reducible show wpList _ _ _ (⟨some 39, _, _, _, _, _⟩ :: _) _ _); refine wpList_append_byte rfl (.tmp 34) (.tmp 38) 22 rfl w.heap.size 5 i0 Try.underlying22 hi hz0 hz1 hz2 _ _ rfl (hown.out.alloc _) _ s[k] rfl (new_byte _ _ _ _ rfl) (short0 hlen.out) (hbel.out.alloc hbel.out.size _) (by have := hbel.out.size; simp; omega) ?_; intro v1 w1 ho1 hb1; replace ho1 := Lib.hid ho1; replace hb1 := Lib.hid hb1)
              go_roundw
              case rel => exact ⟨k + 1, by omega, by go_num, by rw [hq.out]; exact ho1.out, hb1.out⟩
              case measure => simp [intOf]; omega
      · have hT : s.data.toList.take k = s.data.toList := List.take_of_length_le (by rw [hsz.out]; omega)
        rw [hT] at hown
        have hconv := own_string (P := Try.prog) (dst := 9) Try.underlying22 Try.underlying5 Try.underlying9 hown
        obtain ⟨A, cap, rfl⟩ := own_len hown
        clear hT
        by_cases hn : (quoteL s.data.toList).length ≤ 40
        · have hR := Lib.hid (show quoteT s.data.toList = quoteL s.data.toList by rw [quoteT, if_pos ⟨by rw [hsz.out]; exact hs, hn⟩])
          have hbel := Lib.hid hbel
          clear hown
          go_wp2
          go_ret
          exact ⟨by rw [hR.out]; rfl, hbel.out⟩
        · have hR := Lib.hid (show quoteT s.data.toList = [] by rw [quoteT, if_neg (fun h => hn h.2)])
          have hn' : (40 : Int) < ((quoteL s.data.toList).length : Int) := by omega
          have hbel := Lib.hid hbel
          clear hown hconv
          go_wp2
          go_ret
          exact ⟨by rw [hR.out]; rfl, hbel.out⟩
  · have hR := Lib.hid (show quoteT s.data.toList = [] by rw [quoteT, if_neg (fun h => hs (by rw [hsz.out] at h; exact h.1))])
    have hs' : (40 : Int) < (s.size : Int) := by omega
    go_enter Try.func19, Try.ntmps19
    go_wp2
    go_ret
    exact ⟨by rw [hR.out]; rfl, Below.refl _ _⟩

set_option maxRecDepth 20000 in
set_option maxHeartbeats 2000000 in
theorem implQuote_any (s : ByteArray) (hp : s.size ≤ 1048576) (w : World) :
    Calls Try.prog 14 #[.string s] w fun e w' => e = .returned (strV (quoteT s.data.toList)) ∧ Below w.heap.size w w' := by
  obtain ⟨i0, hi, hz0, hz1, hz2⟩ := info_parts Try.ginfo5
  have hsz := Lib.hid (size_data s)
  by_cases hs : s.size ≤ 40
  · go_enter Try.func14, Try.ntmps14
    go_wp2
    go_loopw [3, 10] (fun v i wr => ∃ k : Nat, k ≤ s.size ∧ i = .int .i64 (k : Int) ∧ OwnBytes wr w.heap.size 5 v (quoteL (s.data.toList.take k)) ∧ Below w.heap.size w wr) (fun _ i _ => s.size - (intOf i).toNat)
    case atStart => exact ⟨0, Nat.zero_le _, rfl, World.ownsRow_nil w _ _ 1, Below.refl _ _⟩
    case round =>
      obtain ⟨k, hk, rfl, hown, hbel⟩ := hrel
      have hlen := Lib.hid (quote_room (k := k) hs)
      by_cases hlt : k < s.size
      · have hown := Lib.hid hown
        have hbel := Lib.hid hbel
        have hsp := Lib.hid (show special s[k] = (s[k] == 42 || s[k] == 63 || s[k] == 92) from rfl)
        by_cases h1 : s[k] = 42
        · have t1 : ((s[k].toNat : Int) == 42) = true := is_byte (c := s[k]) 42 h1 (by decide)
          have hq := Lib.hid (quote_two hlt (by rw [hsp.out]; simp [h1]))
          clear hsp h1
          go_wp2_with (first
            | ((with_reducible show wpList _ _ _ (⟨some 22, _, _, _, _, _⟩ :: _) _ _); refine wpList_append_byte rfl (.tmp 20) (.tmp 21) 22 rfl w.heap.size 5 i0 Try.underlying22 hi hz0 hz1 hz2 _ _ rfl (hown.out.alloc _) _ 92 rfl (new_byte _ _ _ _ (by decide)) (short0 hlen.out) (hbel.out.alloc hbel.out.size _) (by have := hbel.out.size; simp; omega) ?_; intro v1 w1 ho1 hb1; replace ho1 := Lib.hid ho1; replace hb1 := Lib.hid hb1)
            | ((with_reducible show wpList _ _ _ (⟨some 28, _, _, _, _, _⟩ :: _) _ _); refine wpList_append_byte rfl (.tmp 23) (.tmp 27) 22 rfl w.heap.size 5 i0 Try.underlying22 hi hz0 hz1 hz2 _ _ rfl (ho1.out.alloc _) _ s[k] rfl (new_byte _ _ _ _ rfl) (short1 hlen.out) (hb1.out.alloc hb1.out.size _) (by have := hb1.out.size; simp; omega) ?_; intro v2 w2 ho2 hb2; replace ho2 := Lib.hid ho2; replace hb2 := Lib.hid hb2))
          go_roundw
          case rel => exact ⟨k + 1, by omega, by go_num, by rw [hq.out]; exact ho2.out, hb2.out⟩
          case measure => simp [intOf]; omega
        · have t1 : ((s[k].toNat : Int) == 42) = false := not_byte (c := s[k]) 42 h1 (by decide)
          by_cases h2 : s[k] = 63
          · have t2 : ((s[k].toNat : Int) == 63) = true := is_byte (c := s[k]) 63 h2 (by decide)
            have hq := Lib.hid (quote_two hlt (by rw [hsp.out]; simp [h2]))
            clear hsp h1 h2
            go_wp2_with (first
              | ((with_reducible show wpList _ _ _ (⟨some 22, _, _, _, _, _⟩ :: _) _ _); refine wpList_append_byte rfl (.tmp 20) (.tmp 21) 22 rfl w.heap.size 5 i0 Try.underlying22 hi hz0 hz1 hz2 _ _ rfl (hown.out.alloc _) _ 92 rfl (new_byte _ _ _ _ (by decide)) (short0 hlen.out) (hbel.out.alloc hbel.out.size _) (by have := hbel.out.size; simp; omega) ?_; intro v1 w1 ho1 hb1; replace ho1 := Lib.hid ho1; replace hb1 := Lib.hid hb1)
              | ((with_reducible show wpList _ _ _ (⟨some 28, _, _, _, _, _⟩ :: _) _ _); refine wpList_append_byte rfl (.tmp 23) (.tmp 27) 22 rfl w.heap.size 5 i0 Try.underlying22 hi hz0 hz1 hz2 _ _ rfl (ho1.out.alloc _) _ s[k] rfl (new_byte _ _ _ _ rfl) (short1 hlen.out) (hb1.out.alloc hb1.out.size _) (by have := hb1.out.size; simp; omega) ?_; intro v2 w2 ho2 hb2; replace ho2 := Lib.hid ho2; replace hb2 := Lib.hid hb2))
            go_roundw
            case rel => exact ⟨k + 1, by omega, by go_num, by rw [hq.out]; exact ho2.out, hb2.out⟩
            case measure => simp [intOf]; omega
          · have t2 : ((s[k].toNat : Int) == 63) = false := not_byte (c := s[k]) 63 h2 (by decide)
            by_cases h3 : s[k] = 92
            · have t3 : ((s[k].toNat : Int) == 92) = true := is_byte (c := s[k]) 92 h3 (by decide)
              have hq := Lib.hid (quote_two hlt (by rw [hsp.out]; simp [h3]))
              clear hsp h1 h2 h3
              go_wp2_with (first
                | ((with_reducible show wpList _ _ _ (⟨some 22, _, _, _, _, _⟩ :: _) _ _); refine wpList_append_byte rfl (.tmp 20) (.tmp 21) 22 rfl w.heap.size 5 i0 Try.underlying22 hi hz0 hz1 hz2 _ _ rfl (hown.out.alloc _) _ 92 rfl (new_byte _ _ _ _ (by decide)) (short0 hlen.out) (hbel.out.alloc hbel.out.size _) (by have := hbel.out.size; simp; omega) ?_; intro v1 w1 ho1 hb1; replace ho1 := Lib.hid ho1; replace hb1 := Lib.hid hb1)
                | ((with_reducible show wpList _ _ _ (⟨some 28, _, _, _, _, _⟩ :: _) _ _); refine wpList_append_byte rfl (.tmp 23) (.tmp 27) 22 rfl w.heap.size 5 i0 Try.underlying22 hi hz0 hz1 hz2 _ _ rfl (ho1.out.alloc _) _ s[k] rfl (new_byte _ _ _ _ rfl) (short1 hlen.out) (hb1.out.alloc hb1.out.size _) (by have := hb1.out.size; simp; omega) ?_; intro v2 w2 ho2 hb2; replace ho2 := Lib.hid ho2; replace hb2 := Lib.hid hb2))
              go_roundw
              case rel => exact ⟨k + 1, by omega, by go_num, by rw [hq.out]; exact ho2.out, hb2.out⟩
              case measure => simp [intOf]; omega
            · have t3 : ((s[k].toNat : Int) == 92) = false := not_byte (c := s[k]) 92 h3 (by decide)
              have hq := Lib.hid (quote_one hlt (by rw [hsp.out]; simp [h1, h2, h3]))
              clear hsp h1 h2 h3
              go_wp2_with ((with_reducible show wpList _ _ _ (⟨some 28, _, _, _, _, _⟩ :: _) _ _); refine wpList_append_byte rfl (.tmp 23) (.tmp 27) 22 rfl w.heap.size 5 i0 Try.underlying22 hi hz0 hz1 hz2 _ _ rfl (hown.out.alloc _) _ s[k] rfl (new_byte _ _ _ _ rfl) (short0 hlen.out) (hbel.out.alloc hbel.out.size _) (by have := hbel.out.size; simp; omega) ?_; intro v1 w1 ho1 hb1; replace ho1 := Lib.hid ho1; replace hb1 := Lib.hid hb1)
              go_roundw
              case rel => exact ⟨k + 1, by omega, by go_num, by rw [hq.out]; exact ho1.out, hb1.out⟩
              case measure => simp [intOf]; omega
      · have hT : s.data.toList.take k = s.data.toList := List.take_of_length_le (by rw [hsz.out]; omega)
        rw [hT] at hown
        have hconv := own_string (P := Try.prog) (dst := 9) Try.underlying22 Try.underlying5 Try.underlying9 hown
        obtain ⟨A, cap, rfl⟩ := own_len hown
        clear hT
        by_cases hn : (quoteL s.data.toList).length ≤ 40
        · have hR := Lib.hid (show quoteT s.data.toList = quoteL s.data.toList by rw [quoteT, if_pos ⟨by rw [hsz.out]; exact hs, hn⟩])
          have hbel := Lib.hid hbel
          clear hown
          go_wp2
          go_ret
          exact ⟨by rw [hR.out]; rfl, hbel.out⟩
        · have hR := Lib.hid (show quoteT s.data.toList = [] by rw [quoteT, if_neg (fun h => hn h.2)])
          have hn' : (40 : Int) < ((quoteL s.data.toList).length : Int) := by omega
          have hbel := Lib.hid hbel
          clear hown hconv
          go_wp2
          go_ret
          exact ⟨by rw [hR.out]; rfl, hbel.out⟩
  · have hR := Lib.hid (show quoteT s.data.toList = [] by rw [quoteT, if_neg (fun h => hs (by rw [hsz.out] at h; exact h.1))])
    have hs' : (40 : Int) < (s.size : Int) := by omega
    go_enter Try.func14, Try.ntmps14
    go_wp2
    go_ret
    exact ⟨by rw [hR.out]; rfl, Below.refl _ _⟩
end Go.Proofs.Ytoljhkhegmimbaa
