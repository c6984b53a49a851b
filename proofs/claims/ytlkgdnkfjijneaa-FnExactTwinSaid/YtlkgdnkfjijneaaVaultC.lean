/- Texts made anew: a copy; each letter turned on; a mark's text. -/
import Derived.Test.YtlkgdnkfjijneaaVaultT
import Derived.Lib.OthersKept
import Derived.Lib.UnsafeStr
import Derived.WalkSmall
namespace Go.Proofs.Ytlkgdnkfjijneaa
open Go.RowKit

/-- A new text, of new memory. -/
theorem bytesOf_data' (t : ByteArray) : (⟨t.data.toList.toArray⟩ : ByteArray) = t := by cases t; simp
theorem Try.infoC5 : (Try.prog.info? 5).map (fun i => (i.zero, i.size, i.bytes)) = some (some (.int .u8 0), 1, 1) := by kernel_rfl
/-- A row of bytes, made a text without a copy. -/
theorem unsafe_row {w : World} {g n : Nat} {s : ByteArray} (h : RowHas w g 5 n s.data.toList) (h0 : s.size ≠ 0) (hn : s.size ≤ n) (hs : s.size ≤ 1048576) :
    (Builtin.unsafeString_ #[59, 3] 9 #[.pointer (some ⟨g, 0, none⟩), .int .i64 (s.size : Int)]).run Try.prog w = .ok (.string s) (w.freeze ⟨g, 0, none⟩ s.size) := by
  obtain ⟨cs, hb, hsz, hc⟩ := h
  have hne : s.data.toList ≠ [] := fun e => h0 (by rw [← str_len, e]; rfl)
  have k := Lib.run_unsafeString_row (P := Try.prog) w 59 3 9 5 Try.underlying59 (by kernel_rfl) g n (by unfold World.shape?; rw [hb, ← hsz]) s.data.toList hne (by rw [str_len]; exact hn) (by rw [str_len]; omega) (fun j x hx => by
    obtain ⟨hj, e⟩ := List.getElem?_eq_some_iff.1 hx
    have e1 : (⟨g, 0, none⟩ : Addr).add j = ⟨g, j, none⟩ := by unfold Addr.add; split <;> simp_all
    rw [e1, cell_of_row _ _ _ _ _ _ hb, hc j hj, e]; rfl)
  rw [str_len, bytesOf_data'] at k
  exact k
theorem oneByte : (Try.prog.info? 5).map (·.size) = some 1 := by kernel_rfl
set_option maxHeartbeats 2000000 in
theorem rawClone_any (s : ByteArray) (w : World) (hs : s.size ≤ 1048576) :
    Calls Try.prog 39 #[.string s] w (Gives (.string s) w) := by
  obtain ⟨i0, hi, hz0, hz1, hz2⟩ := info_parts Try.infoC5
  by_cases h0 : s.size = 0
  · have e : s = ⟨#[]⟩ := by apply ByteArray.ext; exact Array.eq_empty_of_size_eq_zero h0
    subst e
    go_enter Try.func39, Try.ntmps39
    go_wp2
    go_ret
    exact ⟨rfl, Below.refl _ _⟩
  · have h0' : ((s.size : Int) == 0) = false := by rw [beq_eq_false_iff_ne]; omega
    go_enter Try.func39, Try.ntmps39
    go_wp2_with (first
      | (at_make; refine wpList_make_bytes rfl (.tmp 8) (.tmp 8) 48 rfl w.heap.size 5 i0 Try.underlying48 hi hz0 hz1 hz2 _ _ _ _ s.size rfl rfl rfl rfl (by omega) (Below.refl _ _) (Nat.le_refl _) ?_; intro w1 hr1 hb1; replace hr1 := Lib.hid hr1; replace hb1 := Lib.hid hb1)
      | ((with_reducible show wpList _ _ _ (⟨some 12, _, _, _, _, _⟩ :: _) _ _); refine wpList_copy_fill rfl (.tmp 10) (.tmp 11) 48 9 rfl 5 Try.underlying48 oneByte (some ⟨w.heap.size, 0, none⟩) s.size s.size s rfl rfl w.heap.size s.size 5 [] hr1.out (Nat.le_refl _) (by simp) (fun _ => rfl) w.heap.size hb1.out (Nat.le_refl _) ?_; intro w2 hr2 hb2; rw [List.nil_append] at hr2; have hUS := unsafe_row hr2 h0 (Nat.le_refl _) hs; replace hb2 := Lib.hid hb2; clear hr1 hb1 hr2))
    go_ret
    exact ⟨rfl, Lib.below_freeze hb2.out (p := ⟨w.heap.size, 0, none⟩) (Nat.le_refl _) _⟩
theorem clone_any (s : ByteArray) (w : World) (hs : s.size ≤ 1048576) :
    Calls Try.prog 33 #[.string s] w (Gives (.string s) w) := by
  go_enter Try.func33, Try.ntmps33
  go_wp2_with (go_at_call 39; refine (rawClone_any s _ hs).mono ?_; rintro e w1 ⟨rfl, hb⟩; replace hb := Lib.hid hb)
  go_ret
  exact ⟨rfl, hb.out⟩
/-- One byte appended to a row of bytes of the call's own; what else may have turned. -/
theorem wpList_append_byteG {P : Program} {w : World} {ops : Array Oper} {rest : List Oper} {o : Oper} {a : Act} {Q : Exit → Act → World → Prop} (hgd : o.guard = none) (s x : Operand) (t : TypeId)
    (ho : o.op = .call { callee := .builtin .append, args := #[s, x], argTypes := #[t, t] })
    (base : Nat) (e : TypeId) (i : TypeInfo) (ht : P.underlying t = some (.slice e)) (hi : P.info? e = some i) (hz : i.zero = some (.int .u8 0)) (hsize : i.size = 1) (hby : i.bytes = 1)
    (v : Value) (l : List UInt8) (hs : a.eval s = v) (hown : OwnBytes w base e v l) (g : Nat) (c : UInt8) (hx : a.eval x = .slice (some ⟨g, 0, none⟩) 1 1)
    (hc : w.cell? ⟨g, 0, none⟩ = some (byteV c)) (hlen : l.length < 70368744177664) (hB : base ≤ w.heap.size)
    (h : ∀ v' w', OwnBytes w' base e v' (l ++ [c]) → w.grownBy w' v.ownBlock → wpList P ops Q rest (a.put o.dst v') w') : wpList P ops Q (o :: rest) a w := by
  refine wpList_append_own w hgd s x t ho base e i (.int .u8 0) 1 1 ht hi hz hsize hby rfl (by decide) v l.length (l.map byteV) hs hown ⟨g, 0, none⟩ 1 1 [byteV c] hx rfl ?_ ?_ (by unfold maxLen; omega) (by omega) hB ?_
  · intro j u hj
    match j, hj with
    | 0, hj => simp at hj; subst hj; exact hc
  · intro u hu; simp at hu; subst hu; rfl
  · intro v' w' ho' hg _
    refine h v' w' ?_ hg
    unfold OwnBytes
    rw [List.map_append, List.length_append]; exact ho'
theorem grown_iterAt (w : World) (I : Nat) (s : ByteArray) (p : Nat) : w.grownBy (w.iterAt I s p) (some I) :=
  ⟨rfl, rfl, rfl, by rw [Lib.iterAt_size]; exact Nat.le_refl _, fun b _ hne => Lib.iterAt_other w I b s p (fun e => hne (by rw [e]))⟩
theorem own_not_iter {w : World} {base I : Nat} {e : TypeId} {v : Value} {l : List UInt8} {t : ByteArray} {k : Nat} (h : OwnBytes w base e v l) (hI : w.heap[I]? = some (.stringIter t k)) : v.ownBlock ≠ some I := by
  rcases h.2 with ⟨rfl, _⟩ | ⟨g, cap, cur, rfl, _, hh, _⟩
  · simp [Value.ownBlock]
  · intro e
    simp [Value.ownBlock] at e
    subst e
    rw [hh] at hI
    cases hI
theorem OwnBytes.iterAt {w : World} {base I : Nat} {e : TypeId} {v : Value} {l : List UInt8} {t : ByteArray} {k : Nat} (h : OwnBytes w base e v l) (hI : w.heap[I]? = some (.stringIter t k)) (p : Nat) : OwnBytes (w.iterAt I t p) base e v l :=
  World.ownsRow.kept h (grown_iterAt w I t p) (.inr (own_not_iter h hI))
/-- How far a word has been turned on. -/
theorem turnB_val (c : UInt8) (n : Nat) (_h : 97 ≤ c.toNat ∧ c.toNat ≤ 122) : ((turnB n c).toNat : Int) = 97 + ((c.toNat - 97 + n) % 26 : Nat) := by
  unfold turnB
  rw [UInt8.toNat_ofNat_of_lt' (by show _ < 256; omega)]
  omega
set_option maxHeartbeats 2000000 in
theorem turned_any (t : ByteArray) (n : Nat) (w : World) (ht : wordB t.data.toList = true) (hn : n ≤ 25) :
    Calls Try.prog 34 #[.string t, .int .i32 (n : Int)] w (Gives (.string (bytesOf (turnL n t.data.toList))) w) := by
  obtain ⟨i0, hi, hz0, hz1, hz2⟩ := info_parts Try.infoC5
  have hlen := Lib.hid (str_len t)
  obtain ⟨h1, h12, hall⟩ := word_parts ht
  rw [hlen.out] at h1 h12
  replace hall := Lib.hid hall
  go_enter Try.func34, Try.ntmps34
  go_wp2_with (at_make; refine wpList_make_own _ rfl _ (.tmp 9) 48 rfl w.heap.size 5 i0 _ 1 Try.underlying48 hi hz0 hz1 _ _ _ t.size rfl rfl rfl (by rw [hz2]; omega) (by unfold maxLen; omega) (Nat.le_refl _) ?_; intro w1 ho1 hg1; have hb1 := Lib.hid ((Below.refl w.heap.size w).grown hg1 (Nat.le_refl _) (fun k hk => by simp at hk)); replace ho1 := Lib.hid (show OwnBytes w1 w.heap.size 5 _ [] from ho1); clear hg1)
  have ho2 := Lib.hid (ho1.out.alloc (.stringIter t 0))
  have hb2 := Lib.hid (hb1.out.alloc hb1.out.size (.stringIter t 0))
  have hI2 := Lib.hid (show (w1.alloc (.stringIter t 0)).heap[w1.heap.size]? = some (.stringIter t 0) from World.iter_heap w1 t 0)
  go_loopw [5] (fun v wr => ∃ k : Nat, k ≤ t.size ∧ Hid (OwnBytes wr w.heap.size 5 v (turnL n (t.data.toList.take k))) ∧ Hid (wr.heap[w1.heap.size]? = some (.stringIter t k)) ∧ Hid (Below w.heap.size w wr)) (fun _ wr => t.size - wr.iterPos w1.heap.size)
  case atStart => exact ⟨0, Nat.zero_le _, by rw [List.take_zero]; exact ho2, hI2, hb2⟩
  case round =>
    obtain ⟨k, hk, ho, hI, hb⟩ := hrel
    by_cases hlt : k < t.size
    · have hc := hall.out t[k] (by rw [show t[k] = t.data.toList[k]'(by rw [hlen.out]; exact hlt) from rfl]; exact List.getElem_mem _)
      have hd := decode_ascii t k hlt (by omega)
      have hnx : ∀ ty, (Instr.next (.pointer (some ⟨w1.heap.size, 0, none⟩)) true ty).run Try.prog wr = _ := fun ty => Lib.run_next_any_at wr w1.heap.size t k ty hI.out hlt
      rw [hd] at hnx
      have ho3 := Lib.hid (ho.out.iterAt hI.out (k + 1))
      have hI3 := Lib.hid (Lib.iterAt_heap wr w1.heap.size t k (k + 1) hI.out)
      have hb3 := Lib.hid (Lib.below_iterAt hb.out (show w.heap.size ≤ w1.heap.size from hb1.out.size) t (k + 1))
      have hlI : w1.heap.size < (wr.iterAt w1.heap.size t (k + 1)).heap.size := (Array.getElem?_eq_some_iff.1 hI3.out).1
      have hnI := Lib.hid (own_not_iter ho3.out hI3.out)
      have hu := Lib.hid (show (97 : Int) + ((t[k].toNat : Int) - 97 + (n : Int)) % 26 = ((turnB n t[k]).toNat : Int) by rw [turnB_val t[k] n hc]; omega)
      have ht2 := Lib.hid (show turnL n (t.data.toList.take k) ++ [turnB n t[k]] = turnL n (t.data.toList.take (k + 1)) by
        rw [List.take_succ_eq_append_getElem (show k < t.data.toList.length by rw [hlen.out]; exact hlt), turnL, turnL, List.map_append]; rfl)
      have hln := Lib.hid (show (turnL n (t.data.toList.take k)).length < 70368744177664 by rw [turnL, List.length_map, List.length_take]; omega)
      have hpos := Lib.hid (show wr.iterPos w1.heap.size = k by simp [World.iterPos, hI.out])
      clear ho hI hb hd
      go_wp2_with (at_builtin; refine wpList_append_byteG rfl (.tmp 16) (.tmp 24) 48 rfl w.heap.size 5 i0 Try.underlying48 hi hz0 hz1 hz2 _ (turnL n (t.data.toList.take k)) rfl (ho3.out.alloc _) _ (turnB n t[k]) rfl (new_byte _ _ _ _ hu.out) hln.out (Nat.le_trans hb3.out.size (by simp)) ?_; intro v3 w3 ho4 hg4; rw [ht2.out] at ho4; have hI4 := Lib.hid ((hg4.block w1.heap.size (by simp; omega) (fun e => hnI.out e.symm)).trans ((Below.heap_alloc _ _ _ hlI).trans hI3.out)); have hb4 := Lib.hid (own_kept (ho3.out.alloc _) (hb3.out.alloc hb3.out.size _) hg4 (Nat.le_trans hb3.out.size (by simp))); replace ho4 := Lib.hid ho4; clear hg4)
      go_roundw
      case rel => exact ⟨k + 1, by omega, ho4, hI4, hb4⟩
      case measure =>
        have e4 : w3.iterPos w1.heap.size = k + 1 := by simp [World.iterPos, hI4.out]
        rw [hpos.out, e4]; omega
    · have hkk : k = t.size := by omega
      subst hkk
      have hnx : ∀ ty, (Instr.next (.pointer (some ⟨w1.heap.size, 0, none⟩)) true ty).run Try.prog wr = _ := fun ty => Lib.run_next_end_at wr w1.heap.size t t.size ty hI.out (by omega)
      have hcv := own_string (P := Try.prog) Try.underlying48 Try.underlying5 Try.underlying9 (show OwnBytes wr w.heap.size 5 u5 (turnL n t.data.toList) by have := ho.out; rw [List.take_of_length_le (by rw [hlen.out]; exact Nat.le_refl _)] at this; exact this)
      clear ho hI
      go_wp2
      go_ret
      exact ⟨rfl, hb.out⟩
end Go.Proofs.Ytlkgdnkfjijneaa
