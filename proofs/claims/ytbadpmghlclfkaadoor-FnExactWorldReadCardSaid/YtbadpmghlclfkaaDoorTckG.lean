/- WorldText of the model; the text of a world. -/
import Derived.Test.YtbadpmghlclfkaaDoorTckF
import Derived.Test.YtbadpmghlclfkaaDoorTckY
import Derived.Test.YtbadpmghlclfkaaDoorDrawG
namespace Go.Proofs.YtbadpmghlclfkaaDoor
open Go.RowKit

/-- The text of a world, right or not. -/
def worldT (l : List Tik) : List UInt8 := l.flatMap fun x => tickT x ++ [10]
def textW (l : List Tik) : ByteArray := if worldB l = true then bytesOf (worldT l) else ⟨#[]⟩
theorem textW_no {l : List Tik} (h : worldB l = false) : textW l = ⟨#[]⟩ := by unfold textW; rw [h]; rfl
theorem textW_yes {l : List Tik} (h : worldB l = true) : textW l = bytesOf (worldT l) := if_pos h
theorem worldT_snoc (l : List Tik) (k : Nat) (hk : k < l.length) : worldT (l.take (k + 1)) = worldT (l.take k) ++ (tickT l[k] ++ [10]) := by
  unfold worldT
  rw [List.take_succ_eq_append_getElem hk, List.flatMap_append]
  simp
theorem tickT_len {x : Tik} (h : tikOk x = true) : (tickT x).length ≤ 86 := by
  have hs := tik_parts h
  obtain ⟨kd, st, tt⟩ := x
  dsimp only at hs
  have b : (tx tt).length = tt.size := str_len tt
  rcases hs with ⟨rfl, h0, h2, h6⟩ | ⟨rfl, h0, h2⟩ | ⟨rfl, h0, h2⟩ | ⟨rfl, h0, h2⟩ | rfl
  · have e : tickT ⟨1, st, tt⟩ = Lib.join [wSays, Lib.itoa st, tx tt] [32] := rfl
    have a := itoa_le st h0 h2
    rw [e, join_cons2, join_cons2, join_one]
    simp only [List.length_append, List.length_cons, wSays, List.length_nil]
    omega
  · have e : tickT ⟨2, st, tt⟩ = Lib.join [wShow, Lib.itoa st] [32] := rfl
    have a := itoa_le st h0 h2
    rw [e, join_cons2, join_one]
    simp only [List.length_append, List.length_cons, wShow, List.length_nil]
    omega
  · have e : tickT ⟨3, st, tt⟩ = Lib.join [wHide, Lib.itoa st] [32] := rfl
    have a := itoa_le st h0 h2
    rw [e, join_cons2, join_one]
    simp only [List.length_append, List.length_cons, wHide, List.length_nil]
    omega
  · have e : tickT ⟨4, st, tt⟩ = Lib.join [wOver, Lib.itoa st] [32] := rfl
    have a := itoa_le st h0 h2
    rw [e, join_cons2, join_one]
    simp only [List.length_append, List.length_cons, wOver, List.length_nil]
    omega
  · have e : tickT ⟨5, st, tt⟩ = Lib.join [wTime] [32] := rfl
    rw [e, join_one]
    show 4 ≤ 86
    omega
theorem worldT_len : ∀ (l : List Tik), (∀ x ∈ l, tikOk x = true) → (worldT l).length ≤ l.length * 87
  | [], _ => by simp [worldT]
  | x :: l, h => by
    have a := tickT_len (h x (by simp))
    have b := worldT_len l (fun y hy => h y (by simp [hy]))
    unfold worldT at b ⊢
    rw [List.flatMap_cons, List.length_append, List.length_append, List.length_cons, List.length_cons, List.length_nil]
    omega
theorem worldB_parts {l : List Tik} (h : worldB l = true) : l.length ≤ 60 ∧ ∀ x ∈ l, tikOk x = true := by
  unfold worldB at h
  rw [Bool.and_eq_true, decide_eq_true_eq, List.all_eq_true] at h
  exact h
theorem OwnBytes.low {w : World} {b c : Nat} {e : TypeId} {v : Value} {l : List UInt8} (h : OwnBytes w c e v l) (hb : b ≤ c) : OwnBytes w b e v l := by
  refine ⟨h.1, ?_⟩
  rcases h.2 with h | ⟨g, cap, cur, h1, h2, h3⟩
  · exact .inl h
  · exact .inr ⟨g, cap, cur, h1, Nat.le_trans hb h2, h3⟩
theorem OwnBytes.below {w w' : World} {base : Nat} {e : TypeId} {v : Value} {l : List UInt8} (h : OwnBytes w base e v l) (k : Below w.heap.size w w') : OwnBytes w' base e v l := World.ownsRow.kept h (grown_of_below k (Nat.le_refl _)) (by
  rcases h.2 with ⟨rfl, _⟩ | ⟨g, cap, cur, rfl, _⟩
  · exact .inl rfl
  · exact .inr (by simp [Value.ownBlock]))
theorem take_ok {l : List Tik} (h : ∀ x ∈ l, tikOk x = true) (k : Nat) : ∀ x ∈ l.take k, tikOk x = true := fun x hx => h x (List.mem_of_mem_take hx)
set_option maxHeartbeats 8000000 in
theorem specWorldText_any (v : Value) (l : List Tik) (w : World) (hv : Tiks w v l) :
    Calls Tryd.prog 13 #[v] w (Gives (.string (textW l)) w) := by
  obtain ⟨A, cap, rfl⟩ := hv.form
  have hv' := Lib.hid hv
  clear hv
  cases hok : worldB l with
  | false =>
    have e := Lib.hid (textW_no hok)
    go_enter Tryd.func13, Tryd.ntmps13
    go_wp2_with (go_at_call 18; refine (specWorld_any _ l _ hv'.out).mono ?_; rintro e1 w1 ⟨rfl, hb1⟩; rw [hok]; replace hb1 := Lib.hid hb1)
    go_ret
    exact ⟨by rw [e.out]; rfl, hb1.out⟩
  | true =>
    have hp := worldB_parts hok
    have h60 := hp.1
    have hall := Lib.hid hp.2
    have e := Lib.hid (textW_yes hok)
    clear hp
    go_enter Tryd.func13, Tryd.ntmps13
    go_wp2_with (go_at_call 18; refine (specWorld_any _ l _ hv'.out).mono ?_; rintro e1 w1 ⟨rfl, hb1⟩; rw [hok]; replace hb1 := Lib.hid hb1)
    go_loopw [3, 4] (fun u i wr => ∃ k : Nat, k ≤ l.length ∧ i = .int .i64 (k : Int) ∧ Hid (OwnBytes wr w.heap.size 5 u (worldT (l.take k))) ∧ Hid (Below w.heap.size w wr)) (fun _ i _ => l.length - (intOf i).toNat)
    case atStart => exact ⟨0, Nat.zero_le _, rfl, Lib.hid (OwnBytes.low (show OwnBytes (w1.alloc (.cells #[] 5)) w1.heap.size 5 _ [] from World.ownsRow_made w1 #[] 0 (Nat.le_refl _) (by simp) rfl) hb1.out.size), Lib.hid (hb1.out.alloc hb1.out.size _)⟩
    case round =>
      obtain ⟨k, hk, rfl, hO, hb⟩ := hrel
      by_cases hlt : k < l.length
      · have hlt' : (k : Int) < (l.length : Int) := by omega
        have hs := Lib.hid (hv'.out.below hb.out)
        obtain ⟨b, off, rfl, hbk, c0, c1, c2⟩ := hs.out.three k hlt
        have ok := Lib.hid (hall.out l[k] (List.getElem_mem hlt))
        have hln := Lib.hid (show (worldT (l.take k)).length + 87 ≤ 1048576 by
          have := worldT_len (l.take k) (take_ok hall.out k)
          rw [List.length_take] at this
          omega)
        have htl := Lib.hid (tickT_len ok.out)
        obtain ⟨t, ht⟩ : ∃ t, t = bytesOf (tickT l[k]) := ⟨_, rfl⟩
        have hts : t.size ≤ 86 := by rw [ht, bytesOf_size]; exact htl.out
        have hov : ¬ 9223372036854775807 < t.size + 1 := by omega
        have hC := Lib.hid (fun w => show Calls Tryd.prog 53 #[tikA l[k]] w (Gives (.string t) w) from by rw [ht]; exact specTickText_any l[k] ok.out w)
        have hsn := Lib.hid (show worldT (l.take k) ++ (t ++ (⟨#[10]⟩ : ByteArray)).data.toList = worldT (l.take (k + 1)) by rw [worldT_snoc l k hlt, ht]; simp [bytesOf])
        have hsz := Lib.hid (show (t ++ (⟨#[10]⟩ : ByteArray)).size ≤ 87 by rw [ByteArray.size_append]; show t.size + 1 ≤ 87; omega)
        clear ht
        go_wp2_with (first
          | (go_at_call 53; refine (hC.out _).mono ?_; rintro e2 w2 ⟨rfl, hb2⟩; replace hO := Lib.hid (hO.out.below hb2); replace hb := Lib.hid (Below.then_ hb.out hb2 (Nat.le_refl _)); clear hb2 c0 c1 c2)
          | (at_builtin; refine wpList_append_str rfl (.tmp 15) (.tmp 21) rfl w.heap.size _ (worldT (l.take k)) (t ++ ⟨#[10]⟩) rfl hO.out rfl (by have := hln.out; have := hsz.out; omega) hb.out.size ?_; intro v3 w3 ho3 hg3; rw [hsn.out] at ho3; have hb3 := Lib.hid (own_kept hO.out hb.out hg3 hb.out.size); replace hO := Lib.hid ho3; clear hg3))
        go_roundw
        case rel => exact ⟨k + 1, by omega, by go_num, hO, hb3⟩
        case measure => simp [intOf]; omega
      · have hlt' : ¬ (k : Int) < (l.length : Int) := by omega
        have hcv := own_string (P := Tryd.prog) Tryd.underlying22 Tryd.underlying5 Tryd.underlying9 (show OwnBytes wr w.heap.size 5 u3 (worldT l) by have := hO.out; rw [List.take_of_length_le (by omega)] at this; exact this)
        clear hO
        go_wp2
        go_ret
        exact ⟨by rw [e.out]; rfl, hb.out⟩
end Go.Proofs.YtbadpmghlclfkaaDoor
