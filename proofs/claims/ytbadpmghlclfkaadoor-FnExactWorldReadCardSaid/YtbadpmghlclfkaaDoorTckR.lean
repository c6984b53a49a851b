/- A tick read from its line by the model. WorldRead of the model. -/
import Derived.Test.YtbadpmghlclfkaaDoorTckN
import Derived.Test.YtbadpmghlclfkaaDoorTxtX
namespace Go.Proofs.YtbadpmghlclfkaaDoor
open Go.RowKit

theorem specWordN_any (k : Nat) (h1 : 1 ≤ k) (h4 : k ≤ 4) (w : World) : Calls Tryd.prog 86 #[.int .i64 (k : Int)] w (Gives (.string (bytesOf (wordOf k))) w) := by
  rcases (show k = 1 ∨ k = 2 ∨ k = 3 ∨ k = 4 by omega) with rfl | rfl | rfl | rfl
  · exact specWord1_any w
  · exact specWord2_any w
  · exact specWord3_any w
  · exact specWord4_any w
theorem word_size (k : Nat) (h1 : 1 ≤ k) (h4 : k ≤ 4) : (bytesOf (wordOf k)).size = 4 := by
  rcases (show k = 1 ∨ k = 2 ∨ k = 3 ∨ k = 4 by omega) with rfl | rfl | rfl | rfl <;> rfl
theorem piece_to (s : ByteArray) (f : Nat) : s.extract f s.size = bytesOf ((tx s).drop f) := by
  rw [extract_piece]
  rw [List.take_of_length_le (by rw [tx_size]; exact Nat.le_refl _)]
theorem list_not {s : ByteArray} {l : List UInt8} (h : ¬ s = ⟨l.toArray⟩) : ¬ s.toList = l := by
  intro e
  rw [ByteArray.toList_eq] at e
  apply h
  rw [← bytes_tx s]
  show bytesOf s.data.toList = _
  rw [e]; rfl
set_option maxHeartbeats 8000000 in
theorem specRead_any (s : ByteArray) (w : World) (hs : s.size ≤ 8000) :
    Calls Tryd.prog 51 #[.string s] w (Gives (tikA (readS2 (tx s))) w) := by
  have hln := Lib.hid (tx_size s)
  have hb0 := Lib.hid ((Below.refl w.heap.size w).alloc (Nat.le_refl _) (.cells #[.int .i64 0, .int .i64 0, .string ByteArray.empty] 31))
  have hx0 := Lib.hid (show Blk (w.alloc (.cells #[.int .i64 0, .int .i64 0, .string ByteArray.empty] 31)) w.heap.size 31 [.int .i64 0, .int .i64 0, .string ByteArray.empty] from heap_alloc_new w _)
  by_cases ht : s = ⟨#[116, 105, 109, 101]⟩
  · subst ht
    have e := Lib.hid (show readS2 (tx ⟨#[116, 105, 109, 101]⟩) = ⟨5, 0, noText⟩ from rfl)
    clear hln hb0 hx0
    go_enter Tryd.func51, Tryd.ntmps51
    go_wp2
    refine bodyPost_ret (v := .agg #[.int .i64 5, .int .i64 0, .string noText]) (by simp [results, Tryd.results51, go_sem, noText]) rfl ?_
    exact ⟨by rw [e.out]; rfl, (Below.refl _ _).alloc (Nat.le_refl _) _⟩
  · have hne : (s.toList == [116, 105, 109, 101]) = false := by simpa using list_not ht
    have hst := Lib.hid (show readS2 (tx s) = readFrom (tx s) 1 4 by
      unfold readS2
      rw [if_neg (fun e => ht (by rw [← bytes_tx s, e]; rfl))])
    clear ht
    go_enter Tryd.func51, Tryd.ntmps51
    go_wp2
    go_loopw [3] (fun i wr => ∃ k : Nat, 1 ≤ k ∧ k ≤ 5 ∧ i = .int .i64 (k : Int) ∧ Hid (readS2 (tx s) = readFrom (tx s) k (5 - k)) ∧ Hid (Blk wr w.heap.size 31 [.int .i64 0, .int .i64 0, .string ByteArray.empty]) ∧ Hid (Below w.heap.size w wr)) (fun i _ => 6 - (intOf i).toNat)
    case atStart => exact ⟨1, Nat.le_refl _, by omega, rfl, hst, hx0, hb0⟩
    case round =>
      obtain ⟨k, h1, h5, rfl, hR, hx, hb⟩ := hrel
      by_cases h4 : k ≤ 4
      · have h4' : (k : Int) ≤ 4 := by omega
        obtain ⟨W, hW⟩ : ∃ W, W = bytesOf (wordOf k) := ⟨_, rfl⟩
        have hWC := Lib.hid (fun w => show Calls Tryd.prog 86 #[.int .i64 (k : Int)] w (Gives (.string W) w) from by rw [hW]; exact specWordN_any k h1 h4 w)
        have hWs : W.size = 4 := by rw [hW]; exact word_size k h1 h4
        have hk5 := Lib.hid (show 5 - k = (5 - (k + 1)) + 1 by omega)
        by_cases h6 : s.size < 6
        · have h6' : (s.size : Int) < 6 := by omega
          have hR2 := Lib.hid (show readS2 (tx s) = readFrom (tx s) (k + 1) (5 - (k + 1)) by
            rw [hR.out, hk5.out, readFrom, if_pos (.inl (by rw [hln.out]; exact h6))])
          clear hR hW
          go_wp2_with (go_at_call 86; refine (hWC.out _).mono ?_; rintro e1 w1 ⟨rfl, hb1⟩; replace hx := Lib.hid (hx.out.up hb1); replace hb := Lib.hid (Below.then_ hb.out hb1 (Nat.le_refl _)); clear hb1)
          go_roundw
          case rel => exact ⟨k + 1, by omega, by omega, by go_num, hR2, hx, hb⟩
          case measure => simp [intOf]; omega
        · have h6' : ¬ (s.size : Int) < 6 := by omega
          have h4s : (4 : Int) ≤ (s.size : Int) := by omega
          have h6s : (6 : Int) ≤ (s.size : Int) := by omega
          have hp4 := extract_piece s 0 4
          rw [List.drop_zero] at hp4
          by_cases hq : s.extract 0 4 = W
          · have hq' := Lib.hid (show (tx s).take 4 = wordOf k by
              have := hp4.symm.trans (hq.trans hW)
              have := congrArg tx this
              rwa [tx_bytes, tx_bytes] at this)
            have hR2 := Lib.hid (show readS2 (tx s) = ⟨k, numS (((tx s).take 6).drop 5), if k = 1 ∧ 6 < s.size then bytesOf ((tx s).drop 7) else noText⟩ by
              rw [hR.out, hk5.out, readFrom_hit (by rw [hln.out]; omega) hq'.out, hln.out])
            have hn := Lib.hid (show tx (s.extract 5 6) = ((tx s).take 6).drop 5 by rw [extract_piece, tx_bytes])
            have heq : (s.extract 0 4).toList = W.toList := by rw [hq]
            obtain ⟨N, hN⟩ : ∃ N, N = numS (((tx s).take 6).drop 5) := ⟨_, rfl⟩
            have hNC := Lib.hid (fun w => show Calls Tryd.prog 87 #[.string (s.extract 5 6)] w (Gives (.int .i64 N) w) from by rw [hN, ← hn.out]; exact num_any _ w (by rw [ByteArray.size_extract]; omega))
            rw [← hN] at hR2
            clear hR hW hq hq' hN hn hp4
            by_cases hk1 : k = 1 ∧ 6 < s.size
            · obtain ⟨rfl, h7⟩ := hk1
              have h7' : (6 : Int) < (s.size : Int) := by omega
              have h7s : (7 : Int) ≤ (s.size : Int) := by omega
              rw [if_pos ⟨rfl, h7⟩, ← piece_to] at hR2
              go_wp2_with (first
                | (go_at_call 86; refine (hWC.out _).mono ?_; rintro e1 w1 ⟨rfl, hb1⟩; replace hx := Lib.hid (hx.out.up hb1); replace hb := Lib.hid (Below.then_ hb.out hb1 (Nat.le_refl _)); clear hb1)
                | (go_at_call 87; refine (hNC.out _).mono ?_; rintro e2 w2 ⟨rfl, hb1⟩; replace hx := Lib.hid (hx.out.up hb1); replace hb := Lib.hid (Below.then_ hb.out hb1 (Nat.le_refl _)); clear hb1; obtain ⟨y0, y1, y2, yf0, yf1, yf2⟩ := hx.out.three; have hly := hx.out.lt))
              refine bodyPost_ret (v := .agg #[.int .i64 1, .int .i64 N, .string (s.extract 7 s.size)]) (by simp [results, Tryd.results51, go_sem, y0, y1, y2, hly]) rfl ?_
              exact ⟨by rw [hR2.out]; rfl, (fun hh => Below.alloc hh hh.size _) (below_trip hb.out (Nat.le_refl _) 0 1 2 _ _ _)⟩
            · rw [if_neg hk1] at hR2
              have arm : k ≠ 1 ∨ ¬ 6 < s.size := by omega
              rcases arm with ha | ha
              · have ha' : ((k : Int) == 1) = false := by simp; omega
                clear hk1 ha
                go_wp2_with (first
                  | (go_at_call 86; refine (hWC.out _).mono ?_; rintro e1 w1 ⟨rfl, hb1⟩; replace hx := Lib.hid (hx.out.up hb1); replace hb := Lib.hid (Below.then_ hb.out hb1 (Nat.le_refl _)); clear hb1)
                  | (go_at_call 87; refine (hNC.out _).mono ?_; rintro e2 w2 ⟨rfl, hb1⟩; replace hx := Lib.hid (hx.out.up hb1); replace hb := Lib.hid (Below.then_ hb.out hb1 (Nat.le_refl _)); clear hb1; obtain ⟨y0, y1, y2, yf0, yf1, yf2⟩ := hx.out.three; have hly := hx.out.lt))
                refine bodyPost_ret (v := .agg #[.int .i64 k, .int .i64 N, .string noText]) (by simp [results, Tryd.results51, go_sem, y0, y1, y2, hly, noText]) rfl ?_
                exact ⟨by rw [hR2.out]; rfl, (fun hh => Below.alloc hh hh.size _) (below_trip hb.out (Nat.le_refl _) 0 1 2 _ _ _)⟩
              · have ha' : ¬ (6 : Int) < (s.size : Int) := by omega
                have ha2 : (s.size : Int) ≤ 6 := by omega
                by_cases hk : k = 1
                · subst hk
                  clear hk1 ha
                  go_wp2_with (first
                    | (go_at_call 86; refine (hWC.out _).mono ?_; rintro e1 w1 ⟨rfl, hb1⟩; replace hx := Lib.hid (hx.out.up hb1); replace hb := Lib.hid (Below.then_ hb.out hb1 (Nat.le_refl _)); clear hb1)
                    | (go_at_call 87; refine (hNC.out _).mono ?_; rintro e2 w2 ⟨rfl, hb1⟩; replace hx := Lib.hid (hx.out.up hb1); replace hb := Lib.hid (Below.then_ hb.out hb1 (Nat.le_refl _)); clear hb1; obtain ⟨y0, y1, y2, yf0, yf1, yf2⟩ := hx.out.three; have hly := hx.out.lt))
                  refine bodyPost_ret (v := .agg #[.int .i64 1, .int .i64 N, .string noText]) (by simp [results, Tryd.results51, go_sem, y0, y1, y2, hly, noText]) rfl ?_
                  exact ⟨by rw [hR2.out]; rfl, (fun hh => Below.alloc hh hh.size _) (below_trip hb.out (Nat.le_refl _) 0 1 2 _ _ _)⟩
                · have hk' : ((k : Int) == 1) = false := by simp; omega
                  clear hk1 ha hk
                  go_wp2_with (first
                    | (go_at_call 86; refine (hWC.out _).mono ?_; rintro e1 w1 ⟨rfl, hb1⟩; replace hx := Lib.hid (hx.out.up hb1); replace hb := Lib.hid (Below.then_ hb.out hb1 (Nat.le_refl _)); clear hb1)
                    | (go_at_call 87; refine (hNC.out _).mono ?_; rintro e2 w2 ⟨rfl, hb1⟩; replace hx := Lib.hid (hx.out.up hb1); replace hb := Lib.hid (Below.then_ hb.out hb1 (Nat.le_refl _)); clear hb1; obtain ⟨y0, y1, y2, yf0, yf1, yf2⟩ := hx.out.three; have hly := hx.out.lt))
                  refine bodyPost_ret (v := .agg #[.int .i64 k, .int .i64 N, .string noText]) (by simp [results, Tryd.results51, go_sem, y0, y1, y2, hly, noText]) rfl ?_
                  exact ⟨by rw [hR2.out]; rfl, (fun hh => Below.alloc hh hh.size _) (below_trip hb.out (Nat.le_refl _) 0 1 2 _ _ _)⟩
          · have hq' := Lib.hid (show (tx s).take 4 ≠ wordOf k from fun e => hq (by rw [hp4, e, hW]))
            have hR2 := Lib.hid (show readS2 (tx s) = readFrom (tx s) (k + 1) (5 - (k + 1)) by
              rw [hR.out, hk5.out, readFrom_miss hq'.out])
            have hne2 := str_ne hq
            clear hR hW hq hq' hp4
            go_wp2_with (go_at_call 86; refine (hWC.out _).mono ?_; rintro e1 w1 ⟨rfl, hb1⟩; replace hx := Lib.hid (hx.out.up hb1); replace hb := Lib.hid (Below.then_ hb.out hb1 (Nat.le_refl _)); clear hb1)
            go_roundw
            case rel => exact ⟨k + 1, by omega, by omega, by go_num, hR2, hx, hb⟩
            case measure => simp [intOf]; omega
      · have h4' : ¬ (k : Int) ≤ 4 := by omega
        obtain rfl : k = 5 := by omega
        have hR2 := Lib.hid (show readS2 (tx s) = ⟨0, 0, noText⟩ from hR.out)
        obtain ⟨y0, y1, y2, yf0, yf1, yf2⟩ := hx.out.three
        have hly := hx.out.lt
        clear hR
        go_wp2
        refine bodyPost_ret (v := .agg #[.int .i64 0, .int .i64 0, .string noText]) (by simp [results, Tryd.results51, go_sem, y0, y1, y2, noText]) rfl ?_
        exact ⟨by rw [hR2.out]; rfl, below_trip hb.out (Nat.le_refl _) 0 1 2 _ _ _⟩
end Go.Proofs.YtbadpmghlclfkaaDoor
namespace Go.Proofs.YtbadpmghlclfkaaDoor
open Go.RowKit Go.Conc

theorem OwnTxts.grownT {w w' : World} {base base2 : Nat} {u v : Value} {l : List ByteArray} {m : List Tik} (h : OwnTxts w base u l) (ho : OwnTRow w base2 v m) (hg : w.grownBy w' v.ownBlock) : OwnTxts w' base u l := by
  refine h.kept hg ?_
  rcases h.2.2 with ⟨rfl, _⟩ | ⟨g, cap, cur, rfl, _, hh, _⟩
  · exact .inl rfl
  · refine .inr (fun e => ?_)
    rcases ho.2 with ⟨rfl, _⟩ | ⟨g2, cap2, cur2, rfl, _, hh2, _⟩
    · simp [Value.ownBlock] at e
    · simp [Value.ownBlock] at e
      subst e
      rw [hh] at hh2
      simp only [Option.some.injEq, Obj.cells.injEq] at hh2
      have := hh2.2.1
      revert this
      decide
theorem OwnTxts.alloc2 {w : World} {base : Nat} {u : Value} {l : List ByteArray} (h : OwnTxts w base u l) (o : Obj) : OwnTxts (w.alloc o) base u l := h.below ((Below.refl _ _).alloc (Nat.le_refl _) _)
theorem numF_lt : ∀ (l : List UInt8) (n : Int), 0 ≤ n → -1 ≤ numF n l ∧ numF n l < (n + 1) * (10 ^ l.length : Nat)
  | [], n, h => by simp [numF]; omega
  | c :: l, n, h => by
    have hp : (0 : Int) < ((10 ^ l.length : Nat) : Int) := by have := Nat.pow_pos (a := 10) (n := l.length) (by omega); omega
    rw [numF]
    split
    · rename_i hc
      have ih := numF_lt l (10 * n + ((c.toNat : Int) - 48)) (by omega)
      refine ⟨ih.1, Int.lt_of_lt_of_le ih.2 ?_⟩
      have e : ((10 ^ (c :: l).length : Nat) : Int) = 10 * ((10 ^ l.length : Nat) : Int) := by rw [List.length_cons, Nat.pow_succ, Nat.mul_comm, Int.natCast_mul]; rfl
      rw [e, ← Int.mul_assoc]
      exact Int.mul_le_mul_of_nonneg_right (by omega) (Int.le_of_lt hp)
    · refine ⟨by omega, ?_⟩
      exact Int.lt_of_lt_of_le (by decide) (Int.mul_nonneg (show (0 : Int) ≤ n + 1 by omega) (Int.natCast_nonneg (10 ^ (c :: l).length)))
theorem numS_64 (l : List UInt8) : int64B (numS l) := by
  unfold numS int64B
  split
  · omega
  · rename_i h
    have h9 : l.length ≤ 9 := by omega
    have hl := numF_lt l 0 (by omega)
    have hp : ((10 ^ l.length : Nat) : Int) ≤ ((10 ^ 9 : Nat) : Int) := by
      have := Nat.pow_le_pow_right (show 0 < 10 by omega) h9
      omega
    simp only [Int.zero_add, Int.one_mul] at hl
    omega
theorem readS2_wf {l : List UInt8} (h : l.length ≤ 8000) : TikWf (readS2 l) := by
  have hnum : ∀ x : List UInt8, int64B (numS x) := numS_64
  have h0 : TikWf ⟨0, 0, noText⟩ := ⟨by unfold maxLen; show (0 : Nat) ≤ _; omega, by unfold int64B; simp, by unfold int64B; simp⟩
  have hF : ∀ n k, k + n ≤ 5 → TikWf (readFrom l k n) := by
    intro n
    induction n with
    | zero => intro k _; rw [readFrom]; exact h0
    | succ n ih =>
      intro k hk
      rw [readFrom]
      split
      · exact ih (k + 1) (by omega)
      · refine ⟨?_, ?_, hnum _⟩
        · dsimp only
          unfold maxLen
          split
          · rw [bytesOf_size, List.length_drop]; omega
          · show (0 : Nat) ≤ _; omega
        · unfold int64B; dsimp only; omega
  unfold readS2
  split
  · exact ⟨by unfold maxLen; show (0 : Nat) ≤ _; omega, by unfold int64B; simp, by unfold int64B; simp⟩
  · exact hF 4 1 (by omega)
theorem worldS_wf {t : List UInt8} (h : t.length ≤ 8000) : (worldS t).length ≤ 61 ∧ ∀ x ∈ worldS t, TikWf x := by
  have hl := lines_len h
  unfold worldS
  refine ⟨by rw [List.length_map, List.length_take]; omega, fun x hx => ?_⟩
  obtain ⟨y, hy, rfl⟩ := List.mem_map.1 hx
  exact readS2_wf (hl.2 y (List.mem_of_mem_take hy))
theorem worldS_at {t : List UInt8} {k : Nat} (hk : k < (worldS t).length) (hp : k < (splitB 10 [] t).length) : (worldS t)[k] = readS2 (splitB 10 [] t)[k] := by
  have h2 := hk
  unfold worldS linesT at h2
  rw [List.length_map, List.length_take, List.length_dropLast] at h2
  have h1 : (worldS t)[k]? = some (readS2 (splitB 10 [] t)[k]) := by
    unfold worldS linesT
    rw [List.getElem?_map, List.getElem?_take_of_lt (by omega), List.getElem?_dropLast, if_pos (by omega), List.getElem?_eq_getElem hp]
    rfl
  exact Option.some.inj ((List.getElem?_eq_getElem hk).symm.trans h1)
theorem worldS_len (t : List UInt8) : (worldS t).length = min 61 ((splitB 10 [] t).length - 1) := by
  unfold worldS linesT
  rw [List.length_map, List.length_take, List.length_dropLast]
theorem splitB_pos (b : UInt8) : ∀ (l cur : List UInt8), 1 ≤ (splitB b cur l).length
  | [], cur => by simp [splitB]
  | c :: l, cur => by
    rw [splitB]
    split
    · simp
    · exact splitB_pos b l _
set_option maxRecDepth 20000 in
set_option maxHeartbeats 16000000 in
theorem specWorldRead_any (s : ByteArray) (w : World) (hs : s.size ≤ 1048576) :
    Calls Tryd.prog 11 #[.string s] w (WorldEnd w.heap.size (if 8000 < s.size then ⟨[], 2⟩ else readW (tx s)) w) := by
  have hb0 := Lib.hid ((Below.refl w.heap.size w).alloc (Nat.le_refl _) (.cells #[.slice none 0 0, .int .i64 0] 28))
  have hx0 := Lib.hid (show Blk (w.alloc (.cells #[.slice none 0 0, .int .i64 0] 28)) w.heap.size 28 [.slice none 0 0, .int .i64 0] from heap_alloc_new w _)
  by_cases h8 : 8000 < s.size
  · have h8' : (8000 : Int) < (s.size : Int) := by omega
    rw [if_pos h8]
    clear h8
    go_enter Tryd.func11, Tryd.ntmps11
    go_wp2
    refine bodyPost_ret (v := .agg #[.slice none 0 0, .int .i64 2]) (by simp [results, Tryd.results11, go_sem]) rfl ?_
    exact WorldEnd.none_ ((Below.refl _ _).alloc (Nat.le_refl _) _)
  · have h8' : ¬ (8000 : Int) < (s.size : Int) := by omega
    rw [if_neg h8]
    have hln := Lib.hid (tx_size s)
    have hW := Lib.hid (worldS_wf (t := tx s) (by have := hln.out; omega))
    have hWl := Lib.hid (worldS_len (tx s))
    have hpl := Lib.hid (piecesT_len (splitB 10 [] (tx s)))
    have hp1 := Lib.hid (splitB_pos 10 (tx s) [])
    have hpc := Lib.hid (fun x (hx : x ∈ splitB 10 [] (tx s)) => split_piece 10 (tx s) [] x hx)
    have hb := Lib.hid (hb0.out.alloc hb0.out.size (.cells #[] 31))
    have hx := Lib.hid (hx0.out.alloc (.cells #[] 31))
    have hR0 := Lib.hid (show OwnTRow ((w.alloc (.cells #[.slice none 0 0, .int .i64 0] 28)).alloc (.cells #[] 31)) (w.heap.size + 1) (.slice (some ⟨w.heap.size + 1, 0, none⟩) 0 0) [] by
      have := World.ownsRow_made (w.alloc (.cells #[.slice none 0 0, .int .i64 0] 28)) (e := 31) (size := 3) #[] 0 (Nat.le_refl _) (by simp) rfl
      rw [World.size_alloc] at this
      exact this)
    clear hb0 hx0
    go_enter Tryd.func11, Tryd.ntmps11
    go_wp2_with (go_at_call 50; refine (split_own s 10 _ (by omega)).mono ?_; rintro e1 w1 ⟨v, rfl, hO1, hb1⟩; replace hR0 := Lib.hid (hR0.out.below hb1); replace hx := Lib.hid (hx.out.up hb1); replace hb := Lib.hid (Below.then_ hb.out hb1 (Nat.le_refl _)); have hV := Lib.hid (OwnTxts.mono hO1 (Nat.zero_le _)); clear hb1 hO1)
    obtain ⟨A0, cap0, rfl⟩ := hV.out.txts.form
    obtain ⟨N, hN⟩ : ∃ N, N = (piecesT (splitB 10 [] (tx s))).length := ⟨_, rfl⟩
    rw [← hN]
    rw [← hN] at hV hpl
    replace hN := Lib.hid hN
    have hN1 : (1 : Int) ≤ (N : Int) := by have := hN.out; have := hpl.out; have := hp1.out; omega
    have hN2 : (N : Int) ≤ 8001 := by have := hN.out; have := hpl.out; have := splitB_len 10 (tx s) []; have := hln.out; omega
    have hwN : wrap64 ((N : Int) - 1) = (N : Int) - 1 := by unfold wrap64; omega
    go_loopw [3, 5] (fun u i wr => ∃ k : Nat, k ≤ (worldS (tx s)).length ∧ i = .int .i64 (k : Int) ∧ Hid (OwnTRow wr (w.heap.size + 1) u ((worldS (tx s)).take k)) ∧ Hid (OwnTxts wr 0 (.slice A0 N cap0) (piecesT (splitB 10 [] (tx s)))) ∧ Hid (Blk wr w.heap.size 28 [.slice none 0 0, .int .i64 0]) ∧ Hid (Below w.heap.size w wr)) (fun _ i _ => 62 - (intOf i).toNat)
    case atStart => exact ⟨0, Nat.zero_le _, rfl, hR0, hV, hx, hb⟩
    case round =>
      clear hb hx hV hR0
      obtain ⟨k, hk, rfl, hO, hV, hx, hb⟩ := hrel
      by_cases hlt : k < (worldS (tx s)).length
      · have hkN : (k : Int) < (N : Int) - 1 := by have := hWl.out; have := hpl.out; have := hp1.out; omega
        have hk60 : (k : Int) ≤ 60 := by have := hWl.out; omega
        have hkp := Lib.hid (show k < (piecesT (splitB 10 [] (tx s))).length by rw [← hN.out]; omega)
        have hkq := Lib.hid (show k < (splitB 10 [] (tx s)).length by have := hkp.out; rw [piecesT_len] at this; exact this)
        obtain ⟨b, off, rfl, hbk, c0⟩ := hV.out.txts.at_ k hkp.out
        obtain ⟨t, ht⟩ : ∃ t, t = (piecesT (splitB 10 [] (tx s)))[k]'hkp.out := ⟨_, rfl⟩
        have htb := Lib.hid (show t = bytesOf ((splitB 10 [] (tx s))[k]'hkq.out) by rw [ht]; simp [piecesT])
        have hts := Lib.hid (show t.size ≤ 8000 by
          rw [htb.out, bytesOf_size]
          have := hpc.out _ (List.getElem_mem hkq.out)
          have := hln.out
          simp at *
          omega)
        have hX := Lib.hid (show readS2 (tx t) = (worldS (tx s))[k] by rw [htb.out, tx_bytes, worldS_at hlt hkq.out])
        rw [← ht] at c0
        clear ht
        obtain ⟨y, hy⟩ : ∃ y, y = (worldS (tx s))[k] := ⟨_, rfl⟩
        have hC := Lib.hid (fun w => show Calls Tryd.prog 51 #[.string t] w (Gives (.agg #[.int .i64 y.kind, .int .i64 y.seat, .string y.text]) w) from by have := specRead_any t w hts.out; rw [hX.out, ← hy] at this; exact this)
        have hlen := Lib.hid (show ((worldS (tx s)).take k).length < 1048576 by rw [List.length_take]; have := hW.out.1; omega)
        have hsn := Lib.hid (show (worldS (tx s)).take k ++ [y] = (worldS (tx s)).take (k + 1) by rw [hy]; exact (List.take_succ_eq_append_getElem hlt).symm)
        clear hX hy htb hkp hkq
        go_wp2_with (first
          | (go_at_call 51; refine (hC.out _).mono ?_; rintro e2 w2 ⟨rfl, hb1⟩; replace hO := Lib.hid (hO.out.below hb1); replace hV := Lib.hid (hV.out.below hb1); replace hx := Lib.hid (hx.out.up hb1); replace hb := Lib.hid (Below.then_ hb.out hb1 (Nat.le_refl _)); have hO4 := Lib.hid (hO.out.alloc (.cells #[.int .i64 y.kind, .int .i64 y.seat, .string y.text] 31)); have hV4 := Lib.hid (hV.out.alloc2 (.cells #[.int .i64 y.kind, .int .i64 y.seat, .string y.text] 31)); have hx4 := Lib.hid (hx.out.alloc (.cells #[.int .i64 y.kind, .int .i64 y.seat, .string y.text] 31)); have hb4 := Lib.hid (hb.out.alloc hb.out.size (.cells #[.int .i64 y.kind, .int .i64 y.seat, .string y.text] 31)); have hzB := Lib.hid (show w.heap.size + 1 ≤ w2.heap.size by have := hx.out.lt; omega); clear hb1 c0)
          | (at_builtin; refine wpList_append_tik rfl (.tmp 24) (.tmp 30) rfl (w.heap.size + 1) _ ((worldS (tx s)).take k) y 31 rfl hO.out w2.heap.size rfl rfl hlen.out hzB.out ?_; intro v5 w5 ho5 hg5; rw [hsn.out] at ho5; have hV5 := Lib.hid (hV4.out.grownT hO4.out hg5); have hb5 := Lib.hid (hb4.out.grown hg5 hb4.out.size (fun j e => by have := hO4.out.base e; omega)); have hx5 := Lib.hid ((hg5.block w.heap.size hx4.out.lt (fun e => by have := hO4.out.base e.symm; omega)).trans hx4.out); have hO5 := Lib.hid ho5; clear hg5 ho5))
        go_roundw
        case rel => exact ⟨k + 1, by omega, by go_num, hO5, hV5, hx5, hb5⟩
        case measure => simp [intOf]; omega
      · obtain rfl : k = (worldS (tx s)).length := by omega
        obtain ⟨R, hR⟩ : ∃ R, R = worldS (tx s) := ⟨_, rfl⟩
        have hO3 := Lib.hid (show OwnTRow wr (w.heap.size + 1) u3 R by rw [hR]; have := hO.out; rwa [List.take_length] at this)
        have hti := Lib.hid (show Tiks wr u3 R by rw [hR]; refine OwnTRow.tiks (base := w.heap.size + 1) (by rw [← hR]; exact hO3.out) (by have := hW.out.1; omega) hW.out.2)
        obtain ⟨A, cap, rfl⟩ := hO3.out.form
        obtain ⟨t, ht⟩ : ∃ t, t = textW R := ⟨_, rfl⟩
        have hCT := Lib.hid (fun w (h : Tiks w (.slice A R.length cap) R) => show Calls Tryd.prog 13 #[.slice A R.length cap] w (Gives (.string t) w) from by rw [ht]; exact specWorldText_any _ R w h)
        have hrd := Lib.hid (show readW (tx s) = if t = s then ⟨R, 0⟩ else ⟨[], 3⟩ by rw [readW_same, ht, hR, bytes_tx])
        have hstop : ¬ ((worldS (tx s)).length : Int) < (N : Int) - 1 ∨ (((worldS (tx s)).length : Int) < (N : Int) - 1 ∧ ¬ ((worldS (tx s)).length : Int) ≤ 60) := by have := hWl.out; have := hpl.out; have := hp1.out; omega
        rw [← hR] at hstop ⊢
        clear hO hR ht hW hWl hpl hp1 hpc hN
        by_cases hts : t = s
        · have hrd2 := Lib.hid (show readW (tx s) = ⟨R, 0⟩ by rw [hrd.out, if_pos hts])
          clear hrd
          have hn : t.toList = s.toList := by rw [hts]
          clear hts
          rcases hstop with hq | ⟨hq, hq2⟩
          · go_wp2_with (go_at_call 13; refine (hCT.out _ hti.out).mono ?_; rintro e6 w6 ⟨rfl, hb1⟩; replace hO3 := Lib.hid (hO3.out.below hb1); replace hx := Lib.hid (hx.out.up hb1); replace hb := Lib.hid (Below.then_ hb.out hb1 (Nat.le_refl _)); clear hb1; obtain ⟨y0, y1, yf0, yf1⟩ := hx.out.two; have hly := hx.out.lt)
            refine bodyPost_ret (v := .agg #[.slice A R.length cap, .int .i64 0]) (by simp [results, Tryd.results11, go_sem, y0, y1]) rfl ?_
            rw [hrd2.out]
            exact ⟨A, cap, rfl, (hO3.out.set2 (by omega) _ _).low (by omega), below_pair hb.out (Nat.le_refl _) _ _⟩
          · go_wp2_with (go_at_call 13; refine (hCT.out _ hti.out).mono ?_; rintro e6 w6 ⟨rfl, hb1⟩; replace hO3 := Lib.hid (hO3.out.below hb1); replace hx := Lib.hid (hx.out.up hb1); replace hb := Lib.hid (Below.then_ hb.out hb1 (Nat.le_refl _)); clear hb1; obtain ⟨y0, y1, yf0, yf1⟩ := hx.out.two; have hly := hx.out.lt)
            refine bodyPost_ret (v := .agg #[.slice A R.length cap, .int .i64 0]) (by simp [results, Tryd.results11, go_sem, y0, y1]) rfl ?_
            rw [hrd2.out]
            exact ⟨A, cap, rfl, (hO3.out.set2 (by omega) _ _).low (by omega), below_pair hb.out (Nat.le_refl _) _ _⟩
        · have hrd2 := Lib.hid (show readW (tx s) = ⟨[], 3⟩ by rw [hrd.out, if_neg hts])
          clear hrd
          have hn := str_ne hts
          clear hts
          rcases hstop with hq | ⟨hq, hq2⟩
          · go_wp2_with (go_at_call 13; refine (hCT.out _ hti.out).mono ?_; rintro e6 w6 ⟨rfl, hb1⟩; replace hx := Lib.hid (hx.out.up hb1); replace hb := Lib.hid (Below.then_ hb.out hb1 (Nat.le_refl _)); clear hb1; obtain ⟨y0, y1, yf0, yf1⟩ := hx.out.two; have hly := hx.out.lt)
            refine bodyPost_ret (v := .agg #[.slice none 0 0, .int .i64 3]) (by simp [results, Tryd.results11, go_sem, y0, y1]) rfl ?_
            rw [hrd2.out]
            exact WorldEnd.none_ (below_pair hb.out (Nat.le_refl _) _ _)
          · go_wp2_with (go_at_call 13; refine (hCT.out _ hti.out).mono ?_; rintro e6 w6 ⟨rfl, hb1⟩; replace hx := Lib.hid (hx.out.up hb1); replace hb := Lib.hid (Below.then_ hb.out hb1 (Nat.le_refl _)); clear hb1; obtain ⟨y0, y1, yf0, yf1⟩ := hx.out.two; have hly := hx.out.lt)
            refine bodyPost_ret (v := .agg #[.slice none 0 0, .int .i64 3]) (by simp [results, Tryd.results11, go_sem, y0, y1]) rfl ?_
            rw [hrd2.out]
            exact WorldEnd.none_ (below_pair hb.out (Nat.le_refl _) _ _)
end Go.Proofs.YtbadpmghlclfkaaDoor
