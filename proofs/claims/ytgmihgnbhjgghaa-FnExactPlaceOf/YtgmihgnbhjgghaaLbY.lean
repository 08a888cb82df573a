/-
  Walks of the program: lines counted, a label's place, right lines.
-/
import Derived.Test.YtgmihgnbhjgghaaLbX
namespace Go.Proofs.Ytgmihgnbhjgghaa
open Go.RowKit Go.Maps

theorem sum_get {α : Type} (f : α → Nat) : ∀ (xs : List α) (x : α), x ∈ xs → f x ≤ (xs.map f).sum
  | y :: ys, x, h => by
    rw [List.map_cons, List.sum_cons]
    rcases List.mem_cons.1 h with e | h
    · subst e; omega
    · have := sum_get f ys x h
      omega
theorem ln_labels {xs : List Ln} {k : Nat} (h : szLns xs ≤ k) : ∀ x ∈ xs, x.label.size ≤ k := fun x hx => by
  have := sum_get szLn xs x hx
  unfold szLns at h
  unfold szLn at *
  omega
theorem ln_targets {xs : List Ln} {k : Nat} (h : szLns xs ≤ k) : ∀ x ∈ xs, x.target.size ≤ k := fun x hx => by
  have := sum_get szLn xs x hx
  unfold szLns at h
  unfold szLn at *
  omega

def CtR (w : World) (xs : List Ln) (nv iv : Value) (wr : World) : Prop :=
  ∃ i : Nat, i ≤ xs.length ∧ nv = .int .i64 (countL (xs.take i)) ∧ iv = .int .i64 (i : Int) ∧ Hid (Below w.heap.size w wr)

set_option maxRecDepth 100000 in
set_option maxHeartbeats 4000000 in
theorem implCountOf_any (v : Value) (xs : List Ln) (w : World) (h : LnsAt w v xs) (hl : xs.length ≤ 1048576) :
    Calls Try.prog 12 #[v] w fun e w' => e = .returned (.int .i64 (countL xs)) ∧ Below w.heap.size w w' := by
  have CW := fun lb tg op a b c z => hide (isWord_any lb tg op a b c z)
  have H := hide h
  obtain ⟨ao, c, rfl, _⟩ := h
  obtain ⟨n, en⟩ : ∃ n, xs.length = n := ⟨_, rfl⟩
  have EN := hide en
  rw [en] at H hl ⊢
  clear en
  go_enter Try.func12, Try.ntmps12
  go_wp2
  go_loopw [3, 8] (CtR w xs) (fun _ iv _ => n - (intOf iv).toNat)
  case atStart => exact ⟨0, by omega, by simp [countL], rfl, Below.refl _ _⟩
  case round =>
    obtain ⟨i, hi, rfl, rfl, HB⟩ := hrel
    rw [EN.out] at hi
    by_cases hlt : i < n
    · have hlt' : (i : Int) < (n : Int) := by omega
      have hi0 : (0 : Int) ≤ (i : Int) := by omega
      have hix : i < xs.length := by rw [EN.out]; exact hlt
      have hwi : wrap64 ((i : Int) + 1) = (i : Int) + 1 := by unfold wrap64; omega
      have hcl := count_le (xs.take i)
      rw [List.length_take] at hcl
      have HT := hide (count_take hix)
      have HA := hide (H.out.stays HB.out)
      obtain ⟨ao', cc, e5, hc⟩ := HA.out
      injection e5 with e6 e7 e8
      subst e6
      obtain ⟨a, rfl, hab, d0, d1, d2, d3, d4, d5⟩ := hc i hix
      obtain ⟨⟨lb, op, x1, x2, x3, tg⟩, ey⟩ : ∃ y, xs[i] = y := ⟨_, rfl⟩
      rw [ey] at d0 d1 d2 d3 d4 d5 HT
      dsimp only at d0 d1 d2 d3 d4 d5 HT
      obtain ⟨k, ek⟩ : ∃ k, countL (xs.take i) = k := ⟨_, rfl⟩
      rw [ek] at HT hcl ⊢
      have hk : wrap64 (k + 1) = k + 1 := by unfold wrap64; omega
      clear hc e7 e8 ey hix ek hcl
      have hbx : Below wr.heap.size wr (wr.alloc (.cells #[.string lb, .int .i64 op, .int .i64 x1, .int .i64 x2, .int .i64 x3, .string tg] 39)) := (Below.refl _ _).alloc (Nat.le_refl _) _
      have hb2 := hbx.alloc hbx.size (.cells #[.string lb, .int .i64 op, .int .i64 x1, .int .i64 x2, .int .i64 x3, .string tg] 39)
      have HB2 := hide (HB.out.trans (hb2.mono HB.out.size))
      clear hbx hb2
      have CW1 := fun z => CW lb tg op x1 x2 x3 z
      clear CW
      by_cases ho : op = 0
      · subst ho
        rw [if_pos rfl, Int.add_zero] at HT
        rw [decide_eq_false (fun h => h rfl)] at CW1
        go_wp2_with (go_at_call 23; refine (unhide (CW1 _)).mono ?_; rintro e z ⟨rfl, rfl⟩)
        go_roundw
        case rel => exact ⟨i + 1, by rw [EN.out]; omega, by rw [HT.out], by go_num, HB2⟩
        case measure => simp [intOf]; omega
      · rw [if_neg ho] at HT
        rw [decide_eq_true (p := op ≠ 0) ho] at CW1
        go_wp2_with (go_at_call 23; refine (unhide (CW1 _)).mono ?_; rintro e z ⟨rfl, rfl⟩)
        go_roundw
        case rel => exact ⟨i + 1, by rw [EN.out]; omega, by rw [HT.out]; go_num, by go_num, HB2⟩
        case measure => simp [intOf]; omega
    · have hlt' : ¬ (i : Int) < (n : Int) := by omega
      have e9 : xs.take i = xs := List.take_of_length_le (by rw [EN.out]; omega)
      rw [e9]
      clear CW
      go_wp2
      go_ret
      exact ⟨rfl, HB.out⟩

set_option maxRecDepth 100000 in
set_option maxHeartbeats 4000000 in
theorem implPlaceOf_any (v : Value) (xs : List Ln) (s : ByteArray) (w : World) (h : LnsAt w v xs) (hl : xs.length ≤ 1048576) (hx : ∀ x ∈ xs, x.label.size ≤ 1048576) (hs : s.size ≤ 1048576) :
    Calls Try.prog 14 #[v, .string s] w fun e w' => e = .returned (.int .i64 (placeL xs s)) ∧ Below w.heap.size w w' := by
  have CL := hide (labelsOf_any v xs w h hl hx)
  have HP := hide (atTo_place xs s)
  obtain ⟨q, eq⟩ : ∃ q, inTo xs xs.length s = q := ⟨_, rfl⟩
  obtain ⟨k, ek⟩ : ∃ k, atTo xs xs.length s = k := ⟨_, rfl⟩
  have HL : Hid (∀ z : World, LabAt z w.heap.size xs.length xs xs.length → (Instr.lookup 44 (.map (some w.heap.size)) (.string s) true).run Try.prog z = .ok (.tuple #[.int .i64 k, .bool q]) z) := hide fun z h => by rw [← ek, ← eq]; exact h.look hs
  rw [eq, ek] at HP
  rw [← HP.out]
  clear HP h hl hx hs eq ek
  cases q with
  | true =>
    go_enter Try.func14, Try.ntmps14
    go_wp2_with (go_at_call 20; refine (unhide CL).mono ?_; rintro e z ⟨rfl, hm, hb⟩; have hL := HL.out _ hm; have HB := hide hb; clear hm hb)
    go_ret
    exact ⟨rfl, HB.out⟩
  | false =>
    go_enter Try.func14, Try.ntmps14
    go_wp2_with (go_at_call 20; refine (unhide CL).mono ?_; rintro e z ⟨rfl, hm, hb⟩; have hL := HL.out _ hm; have HB := hide hb; clear hm hb)
    go_ret
    exact ⟨rfl, HB.out⟩

def LkR (w : World) (b : Nat) (xs : List Ln) (iv : Value) (wr : World) : Prop :=
  ∃ i : Nat, i ≤ xs.length ∧ iv = .int .i64 (i : Int) ∧ Hid (LabAt wr b xs.length xs xs.length) ∧ Hid (Below w.heap.size w wr) ∧ Hid (FitTo xs i)

set_option maxRecDepth 100000 in
set_option maxHeartbeats 4000000 in
theorem implLinesOk_any (v : Value) (xs : List Ln) (w : World) (h : LnsAt w v xs) (hl : xs.length ≤ 1048576) (hx : ∀ x ∈ xs, x.label.size ≤ 1048576) (ht : ∀ x ∈ xs, x.target.size ≤ 1048576) :
    Calls Try.prog 9 #[v] w fun e w' => e = .returned (.bool (linesB xs)) ∧ Below w.heap.size w w' := by
  have CL := hide (labelsOf_any v xs w h hl hx)
  have CF := fun x z h hs => hide (fits_any w.heap.size xs.length xs x z h hs)
  have CC := fun z h => hide (implCountOf_any v xs z h hl)
  have H := hide h
  have HS := hide ht
  obtain ⟨ao, c, rfl, _⟩ := h
  obtain ⟨n, en⟩ : ∃ n, xs.length = n := ⟨_, rfl⟩
  have EN := hide en
  rw [en] at H hl CL CF CC
  clear hx ht
  by_cases h9 : (900 : Int) < (n : Int)
  · have hf : linesB xs = false := lines_long (by omega)
    rw [hf, en]
    clear CL CF CC hf en
    go_enter Try.func9, Try.ntmps9
    go_wp2
    go_ret
    exact ⟨rfl, Below.refl _ _⟩
  have HL9 : Hid (xs.length ≤ 900) := by
    show _ ≤ _
    omega
  rw [en]
  clear en
  go_enter Try.func9, Try.ntmps9
  go_wp2_with (go_at_call 20; refine (unhide CL).mono ?_; rintro e z ⟨rfl, hm, hb⟩; have HM0 := hide hm; have HB0 := hide hb; clear hm hb)
  clear CL
  go_loopw [13] (LkR w w.heap.size xs) (fun iv _ => n - (intOf iv).toNat)
  case atStart => exact ⟨0, by omega, rfl, by rw [EN.out]; exact HM0, HB0, fun _ _ h => absurd h (Nat.not_lt_zero _)⟩
  case round =>
    clear HM0 HB0
    obtain ⟨i, hi, rfl, HM, HB, HF⟩ := hrel
    rw [EN.out] at hi HM
    by_cases hlt : i < n
    · have hlt' : (i : Int) < (n : Int) := by omega
      have hi0 : (0 : Int) ≤ (i : Int) := by omega
      have hix : i < xs.length := by rw [EN.out]; exact hlt
      have hwi : wrap64 ((i : Int) + 1) = (i : Int) + 1 := by unfold wrap64; omega
      have HA := hide (H.out.stays HB.out)
      obtain ⟨ao', cc, e5, hc⟩ := HA.out
      injection e5 with e6 e7 e8
      subst e6
      obtain ⟨a, rfl, hab, d0, d1, d2, d3, d4, d5⟩ := hc i hix
      have hsx := HS.out _ (List.getElem_mem hix)
      have HN := hide (fun h => HF.out.step (fun _ => h) : fitB xs xs[i] = true → FitTo xs (i + 1))
      have HX := hide (fun h => fit_bad hix h : fitB xs xs[i] = false → linesB xs = false)
      obtain ⟨y, ey⟩ : ∃ y, xs[i] = y := ⟨_, rfl⟩
      rw [ey] at d0 d1 d2 d3 d4 d5 hsx HN HX
      clear hc e7 e8 ey hix CC
      have hbx : Below wr.heap.size wr (wr.alloc (.cells #[.string y.label, .int .i64 y.op, .int .i64 y.a, .int .i64 y.b, .int .i64 y.c, .string y.target] 39)) := (Below.refl _ _).alloc (Nat.le_refl _) _
      have HB2 := hide (HB.out.trans (hbx.mono HB.out.size))
      have HM2 := hide (HM.out.stays hbx HM.out.lt)
      clear hbx
      have CF1 := fun z h => CF y z h hsx
      obtain ⟨q, eq⟩ : ∃ q, fitB xs y = q := ⟨_, rfl⟩
      rw [eq] at CF1 HN HX
      clear CF eq
      cases q with
      | true =>
        clear HX
        go_wp2_with (go_at_call 21; refine (unhide (CF1 _ HM2.out)).mono ?_; rintro e z ⟨rfl, hb⟩; have HB3 := hide (HB2.out.trans (hb.mono HB2.out.size)); have HM3 := hide (HM2.out.stays hb HM2.out.lt); clear hb)
        go_roundw
        case rel => exact ⟨i + 1, by rw [EN.out]; omega, by go_num, by rw [EN.out]; exact HM3, HB3, HN.out (by trivial)⟩
        case measure => simp [intOf]; omega
      | false =>
        have HE := hide (HX.out rfl)
        clear HX HN
        go_wp2_with (go_at_call 21; refine (unhide (CF1 _ HM2.out)).mono ?_; rintro e z ⟨rfl, hb⟩; have HB3 := hide (HB2.out.trans (hb.mono HB2.out.size)); clear hb)
        go_ret
        rw [HE.out]
        exact ⟨rfl, HB3.out⟩
    · have hlt' : ¬ (i : Int) < (n : Int) := by omega
      have e9 : i = n := by omega
      subst e9
      have HE : Hid (linesB xs = decide (countL xs + (sizeTo xs i : Int) = (i : Int))) := by
        have h := FitTo.all (xs := xs) (by rw [EN.out]; exact HF.out) HL9.out
        rw [EN.out] at h
        exact h
      have HA := hide (H.out.stays HB.out)
      have hcl := count_le xs
      have hsl := sizeTo_le xs i
      have HLn := fun z (h : LabAt z w.heap.size i xs i) ty => h.len ty
      obtain ⟨k, ek⟩ : ∃ k, countL xs = k := ⟨_, rfl⟩
      obtain ⟨m, em⟩ : ∃ m, sizeTo xs i = m := ⟨_, rfl⟩
      rw [ek] at CC hcl HE
      rw [em] at hsl HE HLn
      rw [EN.out] at hcl
      have hk : wrap64 (k + (m : Int)) = k + (m : Int) := by unfold wrap64; omega
      clear CF HS HF hcl hsl ek em
      go_wp2_with (go_at_call 12; refine (unhide (CC _ HA.out)).mono ?_; rintro e z ⟨rfl, hb⟩; have HB3 := hide (HB.out.trans (hb.mono HB.out.size)); have hLn := HLn z (HM.out.stays hb HM.out.lt); clear hb)
      go_ret
      rw [HE.out]
      exact ⟨rfl, HB3.out⟩
end Go.Proofs.Ytgmihgnbhjgghaa
