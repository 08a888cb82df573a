/-
  The laws' own helpers: whether a number is in a row, whether two rows, two gates are the same.
-/
import Derived.Test.YtbikdpljhnhcaaaGatI
import Derived.Test.YtbikdpljhnhcaaaFlatP
import Derived.Test.YtbikdpljhnhcaaaCurN
import Derived.Test.YtbikdpljhnhcaaaChecked
import Derived.BigQuiet
import Derived.Test.YtbikdpljhnhcaaaAid
namespace Go.Proofs.Ytbikdpljhnhcaaa
open Go.RowKit

set_option maxRecDepth 100000 in
set_option maxHeartbeats 1000000 in
theorem inL_any (v : Value) (xs : List Int) (s : Int) (w : World) (h : IntsAt w v xs) (hl : xs.length ≤ 1048576) :
    Calls Try.prog 12 #[v, .int .i64 s] w fun e w' => e = .returned (.bool (decide (s ∈ xs))) ∧ w' = w := by
  have H := hide h
  obtain ⟨ao, c, rfl, _⟩ := h
  obtain ⟨n, en⟩ : ∃ n, xs.length = n := ⟨_, rfl⟩
  have EN := hide en
  rw [en] at H hl ⊢
  clear en
  go_enter Try.func12, Try.ntmps12
  go_wp2
  go_loopw [5] (fun iv wr => InZR w xs s n iv wr) (fun iv _ => n - (intOf iv).toNat)
  case atStart => exact ⟨0, by omega, rfl, rfl, fun j hj => absurd hj (Nat.not_lt_zero j)⟩
  case round =>
    obtain ⟨i, hi, rfl, rfl, HN⟩ := hrel
    by_cases hlt : i < n
    · have hlt' : (i : Int) < (n : Int) := by omega
      have hi0 : (0 : Int) ≤ (i : Int) := by omega
      have hix : i < xs.length := by rw [EN.out]; exact hlt
      obtain ⟨ao', c', e1, hc1⟩ := H.out
      injection e1 with e2 e3 e4
      subst e2
      obtain ⟨a, rfl, _, hx⟩ := hc1 i hix
      have EX : Hid (xs[i]? = some xs[i]) := List.getElem?_eq_getElem hix
      have HM : Hid (xs[i] ∈ xs) := List.getElem_mem hix
      obtain ⟨x, ex⟩ : ∃ x, xs[i] = x := ⟨_, rfl⟩
      rw [ex] at hx EX HM
      clear hc1 e3 e4 ex
      by_cases hxs : x = s
      · have HF : Hid (decide (s ∈ xs) = true) := decide_eq_true (by rw [← hxs]; exact HM.out)
        subst hxs
        go_wp2
        go_ret
        exact ⟨by rw [HF.out]; rfl, rfl⟩
      · have hxs' : (x == s) = false := by simpa using hxs
        have HN2 : Hid (∀ j, j < i + 1 → xs[j]? ≠ some s) := fun j hj => by
          rcases Nat.lt_succ_iff_lt_or_eq.1 hj with hj | hj
          · exact HN.out j hj
          · subst hj; rw [EX.out]; exact fun q => hxs (Option.some.inj q)
        go_wp2
        go_roundw
        case rel => exact ⟨i + 1, by omega, by go_num, rfl, HN2⟩
        case measure => simp [intOf]; omega
    · have hlt' : ¬ (i : Int) < (n : Int) := by omega
      have HF : Hid (decide (s ∈ xs) = false) := decide_eq_false (fun q => by
        obtain ⟨j, hj, e⟩ := List.getElem_of_mem q
        exact HN.out j (by rw [EN.out] at hj; omega) (by rw [List.getElem?_eq_getElem hj, e]))
      go_wp2
      go_ret
      exact ⟨by rw [HF.out]; rfl, rfl⟩
set_option maxRecDepth 100000 in
set_option maxHeartbeats 1000000 in
theorem sameIntsG_same (p q : Value) (xs : List Int) (w : World) (h : IntsAt w p xs) (k : IntsAt w q xs) (hl : xs.length ≤ 1048576) :
    Calls Try.prog 16 #[p, q] w fun e w' => e = .returned (.bool true) ∧ Below w.heap.size w w' := by
  have H1 := hide h
  have H2 := hide k
  obtain ⟨ao, c, rfl, _⟩ := h
  obtain ⟨bo, d, rfl, _⟩ := k
  obtain ⟨n, en⟩ : ∃ n, xs.length = n := ⟨_, rfl⟩
  have EN := hide en
  rw [en] at H1 H2 hl ⊢
  clear en
  go_enter Try.func16, Try.ntmps16
  go_wp2
  go_loopw [5] (fun iv wr => ∃ i : Nat, i ≤ n ∧ iv = .int .i64 i ∧ Hid (Below w.heap.size w wr)) (fun iv _ => n - (intOf iv).toNat)
  case atStart => exact ⟨0, by omega, rfl, Below.refl _ _⟩
  case round =>
    obtain ⟨i, hi, rfl, HB⟩ := hrel
    by_cases hlt : i < n
    · have hlt' : (i : Int) < (n : Int) := by omega
      have hi0 : (0 : Int) ≤ (i : Int) := by omega
      have hix : i < xs.length := by rw [EN.out]; exact hlt
      obtain ⟨ao', c', e1, hc1⟩ := H1.out
      injection e1 with e2 e3 e4
      subst e2
      obtain ⟨a, rfl, ha, hx⟩ := hc1 i hix
      obtain ⟨bo', d', e1, hc2⟩ := H2.out
      injection e1 with e2 e5 e6
      subst e2
      obtain ⟨b, rfl, hb, hy⟩ := hc2 i hix
      have hx2 := (HB.out.cell (p := a.add i) (by rw [block_add]; exact ha)).trans hx
      have hy2 := (HB.out.cell (p := b.add i) (by rw [block_add]; exact hb)).trans hy
      obtain ⟨x, ex⟩ : ∃ x, xs[i] = x := ⟨_, rfl⟩
      rw [ex] at hx2 hy2
      clear hc1 hc2 e3 e4 e5 e6 ex hx hy ha hb
      go_wp2_with fail
      go_region
      all_goals go_wp2
      all_goals go_roundw
      all_goals first | (exact ⟨i + 1, by omega, by go_num, HB.out.trans (by go_grown)⟩) | (simp [intOf]; omega)
    · have hlt' : ¬ (i : Int) < (n : Int) := by omega
      go_wp2
      go_ret
      exact ⟨rfl, HB.out⟩

set_option maxRecDepth 100000 in
set_option maxHeartbeats 1000000 in
theorem sameGate_same (p1 p2 q1 q2 : Value) (x : Gt) (w : World) (h : GtAt w p1 p2 x) (k : GtAt w q1 q2 x) (hl : GtLen x) :
    Calls Try.prog 14 #[.agg #[.int .i64 x.owner, p1, p2], .agg #[.int .i64 x.owner, q1, q2]] w fun e w' => e = .returned (.bool true) ∧ Below w.heap.size w w' := by
  obtain ⟨W1, hW⟩ : ∃ W1, (w.alloc (.cells #[.int .i64 x.owner, p1, p2] 26)).alloc (.cells #[.int .i64 x.owner, q1, q2] 26) = W1 := ⟨_, rfl⟩
  have B1 : Hid (Below w.heap.size w W1) := by rw [← hW]; show Below w.heap.size w _; go_grown
  have BA : Hid (Box W1 w.heap.size #[.int .i64 x.owner, p1, p2] 26) := by rw [← hW]; exact hide ((Box.made _ _ _).stays ((Below.refl _ _).alloc (Nat.le_refl _) _))
  have BB : Hid (Box W1 (w.heap.size + 1) #[.int .i64 x.owner, q1, q2] 26) := by rw [← hW]; exact hide (Box.madeAt (by simp) _ _)
  have HA := hide h
  have HK := hide k
  have L1 := hl.l1
  have L2 := hl.l2
  have C0 := fun z h k => hide (sameIntsG_same p1 q1 x.waits z h k L1)
  have C1 := fun z h k => hide (sameIntsG_same p2 q2 x.queues z h k L2)
  obtain ⟨a0, c0, rfl, _⟩ := h.a1
  obtain ⟨a1, c1, rfl, _⟩ := h.a2
  obtain ⟨b0, d0, rfl, _⟩ := k.a1
  obtain ⟨b1, d1, rfl, _⟩ := k.a2
  have HW := hide hW
  clear hW h k hl
  have t0 := Lib.cell_of_heap BA.out 0
  have t1 := Lib.cell_of_heap BB.out 0
  have t2 := Lib.cell_of_heap BA.out 1
  have t3 := Lib.cell_of_heap BB.out 1
  simp at t0 t1 t2 t3
  rw [← HW.out] at t0 t1 t2 t3
  go_enter Try.func14, Try.ntmps14
  go_wp2_with fail
  rw [HW.out]
  refine (unhide (C0 _ (HA.out.stays B1.out).a1 (HK.out.stays B1.out).a1)).mono ?_
  rintro e z ⟨rfl, hb⟩
  have HB := hide hb
  clear hb t0 t1 t2 t3
  have X1 := hide (BA.out.stays HB.out)
  have X2 := hide (BB.out.stays HB.out)
  have t4 := Lib.cell_of_heap X1.out 2
  have t5 := Lib.cell_of_heap X2.out 2
  simp at t4 t5
  have B2 := hide (B1.out.trans (HB.out.mono B1.out.size))
  go_wp2_with fail
  refine (unhide (C1 _ (HA.out.stays B2.out).a2 (HK.out.stays B2.out).a2)).mono ?_
  rintro e z9 ⟨rfl, hb9⟩
  have HB9 := hide hb9
  clear hb9
  go_wp2
  go_ret
  exact ⟨rfl, B2.out.trans (HB9.out.mono B2.out.size)⟩
end Go.Proofs.Ytbikdpljhnhcaaa

namespace Go.Proofs.Ytbikdpljhnhcaaa
open Go.RowKit

/-- What the loop over drawn numbers keeps. -/
def PlacesRel (w : World) (base : Nat) (v i : Value) (wr : World) : Prop :=
  ∃ (k : Nat) (xs : List Nat), k ≤ 12 ∧ i = .int .i64 k ∧ xs.length = k ∧ (∀ x ∈ xs, x < 10000) ∧ wr.ownsRow (w.heap.size + 1) 3 1 v k (xs.map fun (x : Nat) => Value.int .i64 (x : Int)) ∧ Below w.heap.size w wr ∧ Cur wr base w.heap.size

set_option maxHeartbeats 400000 in
theorem places_any (w : World) (base : Nat) (v : Value) (n : Nat) (hn : n ≤ 1048576) (H : CodeAt w base v n) (hb : base ≤ w.heap.size) :
    Calls Try.prog 8 #[v] w fun e w' => ∃ (pv : Value) (xs : List Nat), e = .returned pv ∧ xs.length = 12 ∧ (∀ x ∈ xs, x < 10000) ∧ w'.ownsRow (w.heap.size + 1) 3 1 pv 12 (xs.map fun (x : Nat) => Value.int .i64 (x : Int)) ∧ Below w.heap.size w w' := by
  have HH := hide H
  have NW := hide (new_any w base v n hn H hb)
  clear H
  go_enter Try.func8, Try.ntmps8
  go_wp2_with (first | (go_at_call 26; refine (NW.out).mono ?_; rintro e w1 ⟨rfl, hb1, hc1⟩) | (go_at_call 27; refine (byte_any _ base _ hc1).mono ?_; rintro e w2 ⟨x2, hx2, rfl, hf2, hc2⟩))
  have HB2 : Hid (Below w.heap.size w w2) := hb1.trans (hf2.below (Nat.le_refl _) hb1.size)
  have HC2 := hide hc2
  have hsz2 : w.heap.size + 1 ≤ w2.heap.size := hc2.lt
  clear hb1 hf2 hc1 hc2 NW
  go_loopw [4, 5] (fun v i wr => PlacesRel w base v i wr) (fun _ i _ => 12 - (intOf i).toNat)
  case atStart => exact ⟨0, [], Nat.zero_le _, rfl, rfl, fun x hx => by simp at hx, ownsRow_empty _ _ _ hsz2, HB2.out.trans ((Below.refl _ _).alloc HB2.out.size _), HC2.out.below ((Below.refl _ _).alloc hsz2 _)⟩
  case round =>
    obtain ⟨k, xs, hk, rfl, hxl, hxs, hown, hbel, hc⟩ := hrel
    have hsz := hbel.size
    have hgl := hc.lt
    by_cases hlt : k < 12
    · have HO := hide hown
      have HB := hide hbel
      have HX := hide hxs
      clear hown hbel hxs
      go_wp2_with (first | (go_at_call 28; refine (below_any _ base _ 10000 (by omega) hc).mono ?_; rintro e w3 ⟨x, hx, rfl, hf3, hc3⟩; have hown3 := ownsRow_far HO.out hf3 (Nat.lt_succ_self _); have hsz3 := hf3.size) | (at_builtin; refine wpList_app1 rfl (.tmp 15) (.tmp 18) 24 rfl (w.heap.size + 1) 3 (.int .i64 0) 8 Try.underlying24 Try.infoI rfl _ k _ _ rfl hown3 rfl rfl (by unfold maxLen; omega) (by omega) (by omega) ?_))
      intro v' w4 hown4 hb4
      have R : PlacesRel w base v' (.int .i64 ((k : Int) + 1)) w4 := ⟨k + 1, xs ++ [x], hlt, rfl, by simp [hxl], fun y hy => by
        rcases List.mem_append.1 hy with hy | hy
        · exact HX.out y hy
        · simp at hy; omega, by simpa using hown4, (HB.out.trans (hf3.below (Nat.le_refl _) hsz)).trans (hb4.mono (Nat.le_succ _)), hc3.below hb4⟩
      clear hown3 hown4 hb4 hf3
      go_wp2
      go_roundw
      case rel => exact R
      case measure => simp [intOf]; omega
    · obtain rfl : k = 12 := by omega
      have HO := hide hown
      clear hown
      go_wp2
      go_ret
      exact ⟨_, xs, rfl, hxl, hxs, HO.out, hbel⟩
end Go.Proofs.Ytbikdpljhnhcaaa

namespace Go.Proofs.Ytbikdpljhnhcaaa
open Go.RowKit

theorem big_any (w : World) (a : Option Addr) (n c : Nat) : Calls Try.prog 6 #[.slice a n c] w fun e w' => e = .returned (.bool (decide (1048576 < n))) ∧ w = w' := by
  by_cases h : 1048576 < n
  · have b : decide (1048576 < n) = true := decide_eq_true h
    rw [b]
    have b2 : decide ((1048576 : Int) < (n : Int)) = true := by rw [decide_eq_true_eq]; omega
    clear h
    go_enter Try.func6, Try.ntmps6
    go_wp2
    go_ret
    exact ⟨rfl, rfl⟩
  · have b : decide (1048576 < n) = false := decide_eq_false h
    rw [b]
    have b2 : decide ((1048576 : Int) < (n : Int)) = false := by rw [decide_eq_false_iff_not]; omega
    clear h
    go_enter Try.func6, Try.ntmps6
    go_wp2
    go_ret
    exact ⟨rfl, rfl⟩

theorem row12 {w : World} {base : Nat} {pv : Value} {xs : List Nat} (hl : xs.length = 12) (h : w.ownsRow base 3 1 pv 12 (xs.map fun (x : Nat) => Value.int .i64 (x : Int))) :
    ∃ (gp cap : Nat), pv = .slice (some ⟨gp, 0, none⟩) 12 cap ∧ gp < w.heap.size ∧ ∀ j (hj : j < xs.length), w.cell? ⟨gp, j, none⟩ = some (.int .i64 (xs[j] : Int)) := by
  have h0 := h
  rcases h.2 with ⟨_, h2⟩ | ⟨b, cap, cur, rfl, h2, h3, h4, h5, h6, h7⟩
  · omega
  · refine ⟨b, cap, rfl, (Array.getElem?_eq_some_iff.1 h3).1, fun j hj => ?_⟩
    have := h0.cellAt j (by omega)
    rw [List.getElem?_map, List.getElem?_eq_getElem hj] at this
    exact this
end Go.Proofs.Ytbikdpljhnhcaaa

namespace Go.Proofs.Ytbikdpljhnhcaaa
open Go.RowKit

/-- A world of a class. -/
structure InC (S : World → Prop) where
  z : World
  h : S z
theorem wp_region_class {P : Program} (S : World → Prop) {id : Nat} {Q : Exit → Act → World → Prop} {a : Act} {w : World} {l : List Oper} (hm : P.follows .mixedOrders = true) (hB : Region.lexB .any l.toArray = true) (hC : S w.drew)
    (h : wpQuiet P l.toArray (fun w' => ∃ s : InC S, w' = s.z) (fun a' => ∀ s : InC S, Q .normal a' s.z) l a) : (Code.region id l.toArray true).wp P Q a w := by
  refine wp_region_quiet (C := fun w' => ∃ s : InC S, w' = s.z) hm hB ⟨⟨_, hC⟩, rfl⟩ ?_
  have e : (fun a' => ∀ w', (∃ s : InC S, w' = s.z) → Q .normal a' w') = (fun a' => ∀ s : InC S, Q .normal a' s.z) := by
    funext a'
    exact propext ⟨fun h s => h _ ⟨s, rfl⟩, fun h w' ⟨s, hs⟩ => by subst hs; exact h s⟩
  rw [e]
  simpa using h
/-- A callee's contract, in the class. -/
theorem calls_class {P : Program} {S : World → Prop} {f : FuncId} {args : Array Value} {v : Value} (s : InC S) (k : ∀ w', Below s.z.heap.size s.z w' → S w') (h : Calls P f args s.z fun e w' => e = .returned v ∧ Below s.z.heap.size s.z w') :
    Calls P f args s.z fun e w'' => e = .returned v ∧ ∃ s' : InC S, w'' = s'.z :=
  h.mono fun _ w' ⟨he, hb⟩ => ⟨he, ⟨w', k w' hb⟩, rfl⟩
theorem calls_class_same {P : Program} {S : World → Prop} {f : FuncId} {args : Array Value} {v : Value} (s : InC S) (h : Calls P f args s.z fun e w' => e = .returned v ∧ w' = s.z) :
    Calls P f args s.z fun e w'' => e = .returned v ∧ ∃ s' : InC S, w'' = s'.z :=
  h.mono fun _ _ ⟨he, hb⟩ => ⟨he, s, hb⟩
end Go.Proofs.Ytbikdpljhnhcaaa
