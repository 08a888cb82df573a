/-
  Walks: words of a core's text are drawn.
-/
import Derived.Test.YtmchgmpdhfefjaaDrwN
import Derived.Test.YtmchgmpdhfefjaaInsX
import Derived.Test.YtmchgmpdhfefjaaCurX
import Derived.Test.YtmchgmpdhfefjaaRowQ
namespace Go.Proofs.Ytmchgmpdhfefjaa
open Go.RowKit

/-- A row of numbers under way, drawn by the cursor g. -/
structure RoZ (w : World) (base g : Nat) (v : Value) (xs : List Int) (z : World) : Prop where
  own : z.ownsRow w.heap.size 3 1 v xs.length (xs.map I64)
  far : Far g w z
  cur : Cur z base g
  lt : g < w.heap.size
theorem RoZ.draws {w : World} {base g : Nat} {v : Value} {xs : List Int} {z z' : World} (h : RoZ w base g v xs z) (hf : Far g z z') (hc : Cur z' base g) : RoZ w base g v xs z' :=
  ⟨ownsRow_far h.own hf h.lt, h.far.trans hf, hc, h.lt⟩
theorem RoZ.stays {w : World} {base g : Nat} {v : Value} {xs : List Int} {z z' : World} (h : RoZ w base g v xs z) (hb : Below z.heap.size z z') : RoZ w base g v xs z' :=
  h.draws (Far.ofBelow hb) (h.cur.below (hb.mono (by have := h.far.size; have := h.lt; omega)))
theorem RoZ.in {w : World} {base g : Nat} {v : Value} {xs : List Int} {z : World} (h : RoZ w base g v xs z) : IntsIn w.heap.size z v xs := CellsIn.own h.own

set_option maxRecDepth 100000 in
set_option maxHeartbeats 4000000 in
theorem l15Text_any (w : World) (base g : Nat) (C : Cur w base g) :
    Calls Try.prog 25 #[.pointer (some ⟨g, 0, none⟩)] w fun e w' => ∃ v xs, e = .returned v ∧ xs.length ≤ 8 ∧ RoZ w base g v xs w' := by
  have hg := C.lt
  have CB := fun z C => hide (below_any z base g 6 (by omega) C)
  have CI := fun z C => hide (l14Ins_any z base g C)
  have CE := fun op a b c z => hide (specEncode_any op a b c z)
  have CO := fun z C => hide (once_any z base g 8 (by omega) C)
  have CP := fun z C => hide (pickInt_made z (z.alloc (.cells #[.int .i64 0, .int .i64 (-1), .int .i64 77] 3)) base g [0, -1, 77] 3 (by simp) (by simp) C rfl)
  have Z0 : Hid (RoZ w base g (.slice (some ⟨w.heap.size, 0, none⟩) 0 0) [] (w.alloc (.cells #[] 3))) := hide ⟨ownsRow_empty _ _ _ (Nat.le_refl _), Far.ofBelow ((Below.refl _ _).alloc (Nat.le_refl _) _), C.below ((Below.refl _ _).alloc (by omega) _), hg⟩
  clear C
  go_enter Try.func25, Try.ntmps25
  go_wp2
  go_loopw [3, 4] (fun v i wr => ∃ (k : Nat) (xs : List Int), k ≤ 6 ∧ i = .int .i64 (k : Int) ∧ xs.length = k ∧ Hid (RoZ w base g v xs wr)) (fun _ i _ => 7 - (intOf i).toNat)
  case atStart => exact ⟨0, [], Nat.zero_le _, rfl, rfl, Z0⟩
  case round =>
    obtain ⟨k, xs, hk, rfl, hxl, HZ⟩ := hrel
    clear Z0
    have hsz := HZ.out.far.size
    go_wp2_with fail
    refine (unhide (CB _ HZ.out.cur)).mono ?_
    rintro e z1 ⟨m, hm, rfl, hf1, hc1⟩
    have HZ1 := hide (HZ.out.draws hf1 hc1)
    clear hf1 hc1 HZ
    have hm6 : m < 6 := by omega
    clear hm
    by_cases hlt : k < 1 + m
    · have hk5 : k ≤ 5 := by omega
      have hlt' : (k : Int) < 1 + (m : Int) := by omega
      clear hlt
      go_wp2_with fail
      refine (unhide (CI _ HZ1.out.cur)).mono ?_
      rintro e z2 ⟨op, a, b, c, rfl, hok, hf2, hc2⟩
      have HZ2 := hide (HZ1.out.draws hf2 hc2)
      clear hf2 hc2 HZ1
      go_wp2_with fail
      refine (unhide (CE op a b c _)).mono ?_
      rintro e z3 ⟨rfl, hb3⟩
      have HZ3 := hide (HZ2.out.stays hb3)
      rw [hok, if_pos rfl]
      obtain ⟨N, eN⟩ : ∃ N, encI op a b c = N := ⟨_, rfl⟩
      rw [eN]
      have hown := HZ3.out.own
      rw [hxl] at hown
      have hsz3 := HZ3.out.far.size
      clear hb3 HZ2 hok eN
      go_wp2_with (at_builtin; refine wpList_app1 rfl (.tmp 21) (.tmp 23) 24 rfl w.heap.size 3 (.int .i64 0) 8 Try.underlying24 Try.infoI rfl _ k _ _ rfl hown rfl rfl (by unfold maxLen; omega) (by omega) (by omega) ?_)
      intro v' z4 hown4 hb4
      have HZ4 : Hid (RoZ w base g v' (xs ++ [N]) z4) := hide ⟨by rw [List.length_append, hxl, List.map_append]; exact hown4, Below.far' HZ3.out.far (Nat.le_refl _) hb4, HZ3.out.cur.below (hb4.mono (by omega)), hg⟩
      clear hown hown4 hb4 HZ3
      go_wp2
      go_roundw
      case rel => exact ⟨k + 1, xs ++ [N], by omega, by go_num, by simp [hxl], HZ4⟩
      case measure => simp [intOf]; omega
    · have hlt' : ¬ (k : Int) < 1 + (m : Int) := by omega
      clear hlt
      go_wp2_with fail
      refine (unhide (CO _ HZ1.out.cur)).mono ?_
      rintro e z2 ⟨b, rfl, hf2, hc2⟩
      have HZ2 := hide (HZ1.out.draws hf2 hc2)
      clear hf2 hc2 HZ1
      cases b with
      | false =>
        go_wp2
        go_ret
        exact ⟨_, xs, rfl, by omega, HZ2.out⟩
      | true =>
        go_wp2_with fail
        refine (unhide (CP _ HZ2.out.cur)).mono ?_
        rintro e z3 ⟨N, _, rfl, hf3, hc3⟩
        have HZ3 := hide (HZ2.out.draws hf3 hc3)
        have hown := HZ3.out.own
        rw [hxl] at hown
        have hsz3 := HZ3.out.far.size
        clear hf3 hc3 HZ2
        go_wp2_with (at_builtin; refine wpList_app1 rfl (.tmp 27) (.tmp 31) 24 rfl w.heap.size 3 (.int .i64 0) 8 Try.underlying24 Try.infoI rfl _ k _ _ rfl hown rfl rfl (by unfold maxLen; omega) (by omega) (by omega) ?_)
        intro v' z4 hown4 hb4
        have HZ4 : Hid (RoZ w base g v' (xs ++ [N]) z4) := hide ⟨by rw [List.length_append, hxl, List.map_append]; exact hown4, Below.far' HZ3.out.far (Nat.le_refl _) hb4, HZ3.out.cur.below (hb4.mono (by omega)), hg⟩
        clear hown hown4 hb4 HZ3
        go_wp2
        go_ret
        exact ⟨_, xs ++ [N], rfl, by simp; omega, HZ4.out⟩
end Go.Proofs.Ytmchgmpdhfefjaa
