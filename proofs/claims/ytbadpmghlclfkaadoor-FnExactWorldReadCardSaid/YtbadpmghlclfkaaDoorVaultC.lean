/- Texts made anew: a copy; each letter turned on; a mark's text. -/
import Derived.Test.YtbadpmghlclfkaaDoorVaultT
import Derived.Lib.OthersKept
import Derived.Lib.UnsafeStr
import Derived.WalkSmall
namespace Go.Proofs.YtbadpmghlclfkaaDoor
open Go.RowKit

/-- A new text, of new memory. -/
theorem bytesOf_data' (t : ByteArray) : (⟨t.data.toList.toArray⟩ : ByteArray) = t := by cases t; simp
theorem Tryd.infoC5 : (Tryd.prog.info? 5).map (fun i => (i.zero, i.size, i.bytes)) = some (some (.int .u8 0), 1, 1) := by kernel_rfl
/-- A row of bytes, made a text without a copy. -/
theorem unsafe_row {w : World} {g n : Nat} {s : ByteArray} (h : RowHas w g 5 n s.data.toList) (h0 : s.size ≠ 0) (hn : s.size ≤ n) (hs : s.size ≤ 1048576) :
    (Builtin.unsafeString_ #[143, 3] 9 #[.pointer (some ⟨g, 0, none⟩), .int .i64 (s.size : Int)]).run Tryd.prog w = .ok (.string s) (w.freeze ⟨g, 0, none⟩ s.size) := by
  obtain ⟨cs, hb, hsz, hc⟩ := h
  have hne : s.data.toList ≠ [] := fun e => h0 (by rw [← str_len, e]; rfl)
  have k := Lib.run_unsafeString_row (P := Tryd.prog) w 143 3 9 5 Tryd.underlying143 (by kernel_rfl) g n (by unfold World.shape?; rw [hb, ← hsz]) s.data.toList hne (by rw [str_len]; exact hn) (by rw [str_len]; omega) (fun j x hx => by
    obtain ⟨hj, e⟩ := List.getElem?_eq_some_iff.1 hx
    have e1 : (⟨g, 0, none⟩ : Addr).add j = ⟨g, j, none⟩ := by unfold Addr.add; split <;> simp_all
    rw [e1, cell_of_row _ _ _ _ _ _ hb, hc j hj, e]; rfl)
  rw [str_len, bytesOf_data'] at k
  exact k
theorem oneByte : (Tryd.prog.info? 5).map (·.size) = some 1 := by kernel_rfl
set_option maxHeartbeats 2000000 in
theorem rawClone_any (s : ByteArray) (w : World) (hs : s.size ≤ 1048576) :
    Calls Tryd.prog 117 #[.string s] w (Gives (.string s) w) := by
  obtain ⟨i0, hi, hz0, hz1, hz2⟩ := info_parts Tryd.infoC5
  by_cases h0 : s.size = 0
  · have e : s = ⟨#[]⟩ := by apply ByteArray.ext; exact Array.eq_empty_of_size_eq_zero h0
    subst e
    go_enter Tryd.func117, Tryd.ntmps117
    go_wp2
    go_ret
    exact ⟨rfl, Below.refl _ _⟩
  · have h0' : ((s.size : Int) == 0) = false := by rw [beq_eq_false_iff_ne]; omega
    go_enter Tryd.func117, Tryd.ntmps117
    go_wp2_with (first
      | (at_make; refine wpList_make_bytes rfl (.tmp 8) (.tmp 8) 22 rfl w.heap.size 5 i0 Tryd.underlying22 hi hz0 hz1 hz2 _ _ _ _ s.size rfl rfl rfl rfl (by omega) (Below.refl _ _) (Nat.le_refl _) ?_; intro w1 hr1 hb1; replace hr1 := Lib.hid hr1; replace hb1 := Lib.hid hb1)
      | ((with_reducible show wpList _ _ _ (⟨some 12, _, _, _, _, _⟩ :: _) _ _); refine wpList_copy_fill rfl (.tmp 10) (.tmp 11) 22 9 rfl 5 Tryd.underlying22 oneByte (some ⟨w.heap.size, 0, none⟩) s.size s.size s rfl rfl w.heap.size s.size 5 [] hr1.out (Nat.le_refl _) (by simp) (fun _ => rfl) w.heap.size hb1.out (Nat.le_refl _) ?_; intro w2 hr2 hb2; rw [List.nil_append] at hr2; have hUS := unsafe_row hr2 h0 (Nat.le_refl _) hs; replace hb2 := Lib.hid hb2; clear hr1 hb1 hr2))
    go_ret
    exact ⟨rfl, Lib.below_freeze hb2.out (p := ⟨w.heap.size, 0, none⟩) (Nat.le_refl _) _⟩
theorem clone_any (s : ByteArray) (w : World) (hs : s.size ≤ 1048576) :
    Calls Tryd.prog 101 #[.string s] w (Gives (.string s) w) := by
  go_enter Tryd.func101, Tryd.ntmps101
  go_wp2_with (go_at_call 117; refine (rawClone_any s _ hs).mono ?_; rintro e w1 ⟨rfl, hb⟩; replace hb := Lib.hid hb)
  go_ret
  exact ⟨rfl, hb.out⟩
/-- One byte appended to a row of bytes of the call's own; what else may have turned. -/
theorem wpList_append_byteG {P : Program} {w : World} {ops : Array Oper} {rest : List Oper} {o : Oper} {a : Act} {Q : Exit → Act → World → Prop} (hgd : o.guard = none) (s x : Operand) (t : TypeId)
    (ho : o.op = .call { callee := .builtin .append, args := #[s, x], argTypes := #[t, t] })
    (base : Nat) (e : TypeId) (i : TypeInfo) (ht : P.underlying t = some (.slice e)) (hi : P.info? e = some i) (hz : i.zero = some (.int .u8 0)) (hsize : i.size = 1) (hby : i.bytes = 1)
    (v : Value) (l : List UInt8) (hs : a.eval s = v) (hown : OwnBytes w base e v l) (g : Nat) (c : UInt8) (hx : a.eval x = .slice (some ⟨g, 0, none⟩) 1 1)
    (hc : w.cell? ⟨g, 0, none⟩ = some (byteV c)) (hlen : l.length < 70368744177664) (hB : base ≤ w.heap.size)
    (h : ∀ v' w', OwnBytes w' base e v' (l ++ [c]) → w.grownBy w' v.ownBlock → wpList P ops Q rest (a.put o.dst v') w') : wpList P ops Q (o :: rest) a w := by
  refine wpList_append_own w hgd s x t ho base e i (.int .u8 0) 1 1 ht hi hz hsize hby rfl (by decide) v l.length (l.map byteV) hs hown ⟨g, 0, none⟩ 1 1 [byteV c] hx rfl ?_ ?_ (by unfold maxLen; omega) (by omega) hB ?_
  · intro j u hj
    match j, hj with
    | 0, hj => simp at hj; subst hj; exact hc
  · intro u hu; simp at hu; subst hu; rfl
  · intro v' w' ho' hg _
    refine h v' w' ?_ hg
    unfold OwnBytes
    rw [List.map_append, List.length_append]; exact ho'
theorem grown_iterAt (w : World) (I : Nat) (s : ByteArray) (p : Nat) : w.grownBy (w.iterAt I s p) (some I) :=
  ⟨rfl, rfl, rfl, by rw [Lib.iterAt_size]; exact Nat.le_refl _, fun b _ hne => Lib.iterAt_other w I b s p (fun e => hne (by rw [e]))⟩
theorem own_not_iter {w : World} {base I : Nat} {e : TypeId} {v : Value} {l : List UInt8} {t : ByteArray} {k : Nat} (h : OwnBytes w base e v l) (hI : w.heap[I]? = some (.stringIter t k)) : v.ownBlock ≠ some I := by
  rcases h.2 with ⟨rfl, _⟩ | ⟨g, cap, cur, rfl, _, hh, _⟩
  · simp [Value.ownBlock]
  · intro e
    simp [Value.ownBlock] at e
    subst e
    rw [hh] at hI
    cases hI
theorem OwnBytes.iterAt {w : World} {base I : Nat} {e : TypeId} {v : Value} {l : List UInt8} {t : ByteArray} {k : Nat} (h : OwnBytes w base e v l) (hI : w.heap[I]? = some (.stringIter t k)) (p : Nat) : OwnBytes (w.iterAt I t p) base e v l :=
  World.ownsRow.kept h (grown_iterAt w I t p) (.inr (own_not_iter h hI))
/-- How far a word has been turned on. -/
theorem turnB_val (c : UInt8) (n : Nat) (_h : 97 ≤ c.toNat ∧ c.toNat ≤ 122) : ((turnB n c).toNat : Int) = 97 + ((c.toNat - 97 + n) % 26 : Nat) := by
  unfold turnB
  rw [UInt8.toNat_ofNat_of_lt' (by show _ < 256; omega)]
  omega
end Go.Proofs.YtbadpmghlclfkaaDoor
