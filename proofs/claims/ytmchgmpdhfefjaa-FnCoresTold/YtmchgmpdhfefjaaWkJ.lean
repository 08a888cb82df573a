/-
  Walk: a worker does a word, by the program.
-/
import Derived.Test.YtmchgmpdhfefjaaWkH
import Derived.Test.YtmchgmpdhfefjaaCurX
import Derived.Deep.RegionWith
namespace Go.Proofs.Ytmchgmpdhfefjaa
open Go.RowKit

/-- A worker, and the word that it does in a box. -/
structure DoZ (B G I : Nat) (mv : Value) (xs : List Int) (p q : Int) (mem : List Int) (cs : Array Value) (z0 z : World) : Prop where
  wk : WkZ B G mv xs p q mem z
  bI : Box z I cs 34
  bel : Below B z0 z
theorem DoZ.stays {B G I : Nat} {mv : Value} {xs : List Int} {p q : Int} {mem : List Int} {cs : Array Value} {z0 z z' : World} (h : DoZ B G I mv xs p q mem cs z0 z) (hb : Below z.heap.size z z') : DoZ B G I mv xs p q mem cs z0 z' :=
  ⟨h.wk.stays hb, h.bI.stays hb, h.bel.trans (hb.mono (by have := h.wk.bO.lt; have := h.wk.hB; omega))⟩
theorem DoZ.setPc {B G I : Nat} {mv : Value} {xs : List Int} {p q : Int} {mem : List Int} {cs : Array Value} {z0 z : World} (h : DoZ B G I mv xs p q mem cs z0 z) (h8 : xs.length = 8) (hI : I ≠ G) (n : Int) : DoZ B G I mv xs n q mem cs z0 (z.setCell ⟨G, 8, none⟩ (.int .i64 n)) :=
  ⟨h.wk.setPc h8 n, h.bI.other _ _ hI, h.bel.setCell (p := ⟨G, 8, none⟩) h.wk.hB _⟩

set_option maxRecDepth 100000 in
set_option maxHeartbeats 8000000 in
theorem implDo_any {B G : Nat} {mv : Value} (r0 r1 r2 r3 r4 r5 r6 r7 p q : Int) (mem : List Int) (op a b c : Int) (z : World) (h : WkZ B G mv [r0, r1, r2, r3, r4, r5, r6, r7] p q mem z) (ha : 0 ≤ a ∧ a ≤ 7) (hb : 0 ≤ b ∧ b ≤ 7) (hc : 0 ≤ c) (hp : 0 ≤ p ∧ p ≤ 1048576) :
    Calls Try.prog 30 #[.pointer (some ⟨G, 0, none⟩), .agg #[.int .i64 op, .int .i64 a, .int .i64 b, .int .i64 c]] z fun e w' => e = .returned (.int .i64 (doE ⟨[r0, r1, r2, r3, r4, r5, r6, r7], p, q⟩ ⟨op, a, b, c⟩ mem).2.2) ∧ WkZ B G mv (doE ⟨[r0, r1, r2, r3, r4, r5, r6, r7], p, q⟩ ⟨op, a, b, c⟩ mem).1.regs (doE ⟨[r0, r1, r2, r3, r4, r5, r6, r7], p, q⟩ ⟨op, a, b, c⟩ mem).1.pc q (doE ⟨[r0, r1, r2, r3, r4, r5, r6, r7], p, q⟩ ⟨op, a, b, c⟩ mem).2.1 w' ∧ Below B z w' := by
  have hBz : B ≤ z.heap.size := by have := h.bO.lt; have := h.hB; omega
  have hGz := h.bO.lt
  obtain ⟨V, hV⟩ : ∃ V, z.alloc (.cells #[.int .i64 op, .int .i64 a, .int .i64 b, .int .i64 c] 34) = V := ⟨_, rfl⟩
  obtain ⟨I, hI⟩ : ∃ I, z.heap.size = I := ⟨_, rfl⟩
  have D0 : Hid (DoZ B G I mv [r0, r1, r2, r3, r4, r5, r6, r7] p q mem #[.int .i64 op, .int .i64 a, .int .i64 b, .int .i64 c] z V) := by
    rw [← hV, ← hI]
    have hal : Below z.heap.size z (z.alloc (.cells #[.int .i64 op, .int .i64 a, .int .i64 b, .int .i64 c] 34)) := (Below.refl _ _).alloc (Nat.le_refl _) _
    exact hide ⟨h.stays hal, Box.made _ _ _, hal.mono hBz⟩
  have hIG : I ≠ G := by omega
  have HV := hide hV
  have HIE := hide hI
  obtain ⟨ml, hml⟩ : ∃ ml, mv = ml := ⟨_, rfl⟩
  have CT := fun z => hide (implTouches_any op a b c z)
  have CVL := fun z (h : WkZ B G mv [r0, r1, r2, r3, r4, r5, r6, r7] p q mem z) hm => hide (implValue_any r0 r1 r2 r3 r4 r5 r6 r7 p q mem op a b c z h ha hb hc hm)
  have CWR := fun z (h : WkZ B G mv [r0, r1, r2, r3, r4, r5, r6, r7] p q mem z) hm => hide (implWrite_any r0 r1 r2 r3 r4 r5 r6 r7 p q mem op a b c z h ha hc hm)
  have CNX := fun z => hide (implNext_any r0 r1 r2 r3 r4 r5 r6 r7 p q op a b c z ha hp)
  obtain ⟨t, et⟩ : ∃ t, touchB op = t := ⟨_, rfl⟩
  have HT := hide et
  simp only [et] at CT
  have EM := hide hml
  obtain ⟨n, en⟩ : ∃ n, mem.length = n := ⟨_, rfl⟩
  have EN := hide en
  obtain ⟨R, eR⟩ : ∃ R, doE ⟨[r0, r1, r2, r3, r4, r5, r6, r7], p, q⟩ ⟨op, a, b, c⟩ mem = R := ⟨_, rfl⟩
  have ER := hide eR
  rw [eR]
  have hmv : ∃ o m, mv = .slice o n m := by obtain ⟨o, m, e⟩ := form_own h.mo; exact ⟨o, m, by rw [e, en]⟩
  obtain ⟨mo, mc, emv⟩ := hmv
  subst emv
  clear hml EM ml h hV hI et en eR hBz hGz
  obtain ⟨Sc, eSc⟩ : ∃ Sc : World → Prop, ∀ z', Sc z' ↔ DoZ B G I (.slice mo n mc) [r0, r1, r2, r3, r4, r5, r6, r7] p q mem #[.int .i64 op, .int .i64 a, .int .i64 b, .int .i64 c] z z' := ⟨_, fun _ => Iff.rfl⟩
  have HSC := hide eSc
  have KP : Hid (∀ z z', Sc z → Below z.heap.size z z' → Sc z') := fun z z' hz hb => (HSC.out z').2 (((HSC.out z).1 hz).stays hb)
  have K0 : Hid (Sc V.drew) := (HSC.out _).2 (D0.out.stays (Below.refl _ _).drew)
  have hne : Nonempty (InC Sc) := ⟨⟨_, K0.out⟩⟩
  have i0 : ∀ s : InC Sc, s.z.cell? ⟨I, 0, none⟩ = some (.int .i64 op) := fun s => Lib.cell_of_heap ((HSC.out _).1 s.h).bI 0
  have i1 : ∀ s : InC Sc, s.z.cell? ⟨I, 1, none⟩ = some (.int .i64 a) := fun s => Lib.cell_of_heap ((HSC.out _).1 s.h).bI 1
  have i2 : ∀ s : InC Sc, s.z.cell? ⟨I, 2, none⟩ = some (.int .i64 b) := fun s => Lib.cell_of_heap ((HSC.out _).1 s.h).bI 2
  have i3 : ∀ s : InC Sc, s.z.cell? ⟨I, 3, none⟩ = some (.int .i64 c) := fun s => Lib.cell_of_heap ((HSC.out _).1 s.h).bI 3
  have g10 : ∀ s : InC Sc, s.z.cell? ⟨G, 10, none⟩ = some (.slice mo n mc) := fun s => Lib.cell_of_heap (show Box s.z G #[.int .i64 r0, .int .i64 r1, .int .i64 r2, .int .i64 r3, .int .i64 r4, .int .i64 r5, .int .i64 r6, .int .i64 r7, .int .i64 p, .int .i64 q, (.slice mo n mc)] 61 from ((HSC.out _).1 s.h).wk.bO) 10
  have CT1 := fun s : InC Sc => hide (calls_class s (fun w' hb => KP.out _ _ s.h hb) ((unhide (CT s.z)).mono fun _ w' (h : _ ∧ _) => And.intro h.1 (show Below s.z.heap.size s.z w' by rw [h.2]; exact (Below.refl _ _).alloc (Nat.le_refl _) _)))
  clear eSc CT
  by_cases hcase : t = true ∧ (n : Int) ≤ c
  · obtain ⟨rfl, hge⟩ := hcase
    obtain rfl : R = (⟨[r0, r1, r2, r3, r4, r5, r6, r7], p, q⟩, mem, 4) := by
      rw [← ER.out, doE, HT.out, EN.out, if_pos ⟨rfl, hge⟩]
    clear CVL CWR CNX hIG ER EN ha hb hc hp
    go_enter Try.func30, Try.ntmps30
    go_wp2_with fail
    rw [HV.out, HIE.out]
    clear HV HIE
    refine wp_region_class Sc (by kernel_rfl) (by kernel_rfl) K0.out ?_
    repeat (go_big_quiet_step ((go_at_call 40; with_reducible exact unhide (CT1 _))))
    refine wpQuiet_nil ?_
    intro s
    have D := hide ((HSC.out _).1 s.h)
    obtain ⟨z9, hz9⟩ := s
    dsimp only at D ⊢
    clear i0 i1 i2 i3 g10
    go_wp2
    go_ret
    exact ⟨rfl, D.out.wk, D.out.bel⟩
  · have hm : touchB op = true → c < mem.length := fun h => by
      rw [HT.out] at h
      rw [EN.out]
      rcases Int.lt_or_le c (n : Int) with h1 | h1
      · exact h1
      · exact absurd ⟨h, h1⟩ hcase
    have HM := hide hm
    have hR1 : ¬ (touchB op = true ∧ (mem.length : Int) ≤ c) := by rw [HT.out, EN.out]; exact hcase
    have HR1 : Hid (R = if valF ⟨[r0, r1, r2, r3, r4, r5, r6, r7], p, q⟩ ⟨op, a, b, c⟩ mem ≠ 0 then (⟨[r0, r1, r2, r3, r4, r5, r6, r7], p, q⟩, mem, valF ⟨[r0, r1, r2, r3, r4, r5, r6, r7], p, q⟩ ⟨op, a, b, c⟩ mem)
        else if op = 10 then (⟨[r0, r1, r2, r3, r4, r5, r6, r7], nextE ⟨[r0, r1, r2, r3, r4, r5, r6, r7], p, q⟩ ⟨op, a, b, c⟩, q⟩, memE ⟨[r0, r1, r2, r3, r4, r5, r6, r7], p, q⟩ ⟨op, a, b, c⟩ mem, 10)
        else (⟨[r0, r1, r2, r3, r4, r5, r6, r7].set a.toNat (valN ⟨[r0, r1, r2, r3, r4, r5, r6, r7], p, q⟩ ⟨op, a, b, c⟩ mem), nextE ⟨[r0, r1, r2, r3, r4, r5, r6, r7], p, q⟩ ⟨op, a, b, c⟩, q⟩, memE ⟨[r0, r1, r2, r3, r4, r5, r6, r7], p, q⟩ ⟨op, a, b, c⟩ mem, 0)) := by
      refine hide ?_
      rw [← ER.out, doE, if_neg hR1]
    obtain ⟨N, eN⟩ : ∃ N, valN ⟨[r0, r1, r2, r3, r4, r5, r6, r7], p, q⟩ ⟨op, a, b, c⟩ mem = N := ⟨_, rfl⟩
    obtain ⟨F, eF⟩ : ∃ F, valF ⟨[r0, r1, r2, r3, r4, r5, r6, r7], p, q⟩ ⟨op, a, b, c⟩ mem = F := ⟨_, rfl⟩
    obtain ⟨X, eX⟩ : ∃ X, nextE ⟨[r0, r1, r2, r3, r4, r5, r6, r7], p, q⟩ ⟨op, a, b, c⟩ = X := ⟨_, rfl⟩
    obtain ⟨M, eM⟩ : ∃ M, memE ⟨[r0, r1, r2, r3, r4, r5, r6, r7], p, q⟩ ⟨op, a, b, c⟩ mem = M := ⟨_, rfl⟩
    have hML : M.length = n := by rw [← eM, ← EN.out]; unfold memE; split <;> (try split) <;> simp
    rw [eF, eX, eM, eN] at HR1
    simp only [eN, eF, two] at CVL
    simp only [eM] at CWR
    simp only [eX] at CNX
    clear eN eF eX eM hR1 hm
    obtain ⟨ka, rfl⟩ : ∃ k : Nat, a = (k : Int) := ⟨a.toNat, by omega⟩
    have hka : ka < [r0, r1, r2, r3, r4, r5, r6, r7].length := by simp; omega
    have a0 : (0 : Int) ≤ (ka : Int) := by omega
    have a1 : (ka : Int) < 8 := by omega
    have hc0 : t = true → ¬ ((n : Int) ≤ c) := fun h1 h2 => hcase ⟨h1, h2⟩
    clear ha hb hc hp hcase
    cases t with
    | true =>
      have hc1 := hc0 rfl
      clear hc0
      go_enter Try.func30, Try.ntmps30
      go_wp2_with fail
      rw [HV.out, HIE.out]
      clear HV HIE
      refine wp_region_class Sc (by kernel_rfl) (by kernel_rfl) K0.out ?_
      repeat (go_big_quiet_step ((go_at_call 40; with_reducible exact unhide (CT1 _))))
      refine wpQuiet_nil ?_
      intro s
      have D1 := hide ((HSC.out _).1 s.h)
      obtain ⟨z1, hz1⟩ := s
      dsimp only at D1 ⊢
      clear i0 i1 i2 i3 g10 hz1 CT1 K0 KP HSC D0 hne Sc
      have j0 := Lib.cell_of_heap D1.out.bI 0
      have j1 := Lib.cell_of_heap D1.out.bI 1
      have j2 := Lib.cell_of_heap D1.out.bI 2
      have j3 := Lib.cell_of_heap D1.out.bI 3
      simp at j0 j1 j2 j3
      go_wp2_with fail
      refine (unhide (CVL _ D1.out.wk HM.out)).mono ?_
      rintro e z2 ⟨rfl, hb2⟩
      have D2 := hide (D1.out.stays hb2)
      clear hb2 j0 j1 j2 j3 D1 CVL
      by_cases hF : F = 0
      case neg =>
        have hF' : (F != 0) = true := by simpa using hF
        obtain rfl : R = (⟨[r0, r1, r2, r3, r4, r5, r6, r7], p, q⟩, mem, F) := by rw [HR1.out, if_pos hF]
        clear HR1 ER CWR CNX hF
        go_wp2
        go_ret
        exact ⟨rfl, D2.out.wk, D2.out.bel⟩
      subst hF
      have HR2 : Hid (R = if op = 10 then (⟨[r0, r1, r2, r3, r4, r5, r6, r7], X, q⟩, M, 10) else (⟨[r0, r1, r2, r3, r4, r5, r6, r7].set ka N, X, q⟩, M, 0)) := by
        refine hide ?_
        rw [HR1.out, if_neg (by simp)]
        rfl
      clear HR1 ER
      have j0 := Lib.cell_of_heap D2.out.bI 0
      have j1 := Lib.cell_of_heap D2.out.bI 1
      have j2 := Lib.cell_of_heap D2.out.bI 2
      have j3 := Lib.cell_of_heap D2.out.bI 3
      simp at j0 j1 j2 j3
      go_wp2_with fail
      refine (unhide (CWR _ D2.out.wk HM.out)).mono ?_
      rintro e z3 ⟨rfl, hz3, hb3, hk3⟩
      have D3 : Hid (DoZ B G I (.slice mo n mc) [r0, r1, r2, r3, r4, r5, r6, r7] p q M #[.int .i64 op, .int .i64 (ka : Int), .int .i64 b, .int .i64 c] z z3) :=
        hide ⟨hz3, (hk3 I D2.out.bI.lt (fun e => Lib.ownBlock_ne D2.out.wk.mo D2.out.bI (by decide) e)).trans D2.out.bI, D2.out.bel.trans hb3⟩
      clear hz3 hb3 hk3 j0 j1 j2 j3 D2 CWR
      have j0 := Lib.cell_of_heap D3.out.bI 0
      have j1 := Lib.cell_of_heap D3.out.bI 1
      have j2 := Lib.cell_of_heap D3.out.bI 2
      have j3 := Lib.cell_of_heap D3.out.bI 3
      simp at j0 j1 j2 j3
      have b3 : Box z3 G #[.int .i64 r0, .int .i64 r1, .int .i64 r2, .int .i64 r3, .int .i64 r4, .int .i64 r5, .int .i64 r6, .int .i64 r7, .int .i64 p, .int .i64 q, (.slice mo n mc)] 61 := D3.out.wk.bO
      have g0 := Lib.cell_of_heap b3 0
      have g1 := Lib.cell_of_heap b3 1
      have g2 := Lib.cell_of_heap b3 2
      have g3 := Lib.cell_of_heap b3 3
      have g4 := Lib.cell_of_heap b3 4
      have g5 := Lib.cell_of_heap b3 5
      have g6 := Lib.cell_of_heap b3 6
      have g7 := Lib.cell_of_heap b3 7
      have g8 := Lib.cell_of_heap b3 8
      have g9 := Lib.cell_of_heap b3 9
      simp at g0 g1 g2 g3 g4 g5 g6 g7 g8 g9
      clear b3
      have CN1 := fun z (h : Below z3.heap.size z3 z) => hide ((unhide (CNX z)).mono fun e w' (h9 : _ ∧ _) => And.intro h9.1 (D3.out.stays (h.trans (h9.2.mono h.size))))
      go_wp2_with fail
      go_region_with ((go_at_call 47; refine (unhide (CN1 _ ((Below.refl _ _).drew))).mono ?_; rintro e z4 ⟨rfl, hd4⟩; have D4 := hide hd4; clear hd4; have b4 : Box z4 G #[.int .i64 r0, .int .i64 r1, .int .i64 r2, .int .i64 r3, .int .i64 r4, .int .i64 r5, .int .i64 r6, .int .i64 r7, .int .i64 p, .int .i64 q, (.slice mo n mc)] 61 := D4.out.wk.bO; have k8 := Lib.cell_of_heap b4 8; simp at k8; have f8 := Lib.frozen_of_heap b4 8; clear b4))
      all_goals
        have D5 := hide (D4.out.setPc rfl hIG X)
        obtain ⟨z5, h5⟩ : ∃ z5, z4.setCell ⟨G, 8, none⟩ (.int .i64 X) = z5 := ⟨_, rfl⟩
        rw [h5] at D5 ⊢
        clear h5 D4 k8 f8 CN1 D3 g0 g1 g2 g3 g4 g5 g6 g7 g8 g9 j0 j1 j2 j3 CNX
        have j0 := Lib.cell_of_heap D5.out.bI 0
        have j1 := Lib.cell_of_heap D5.out.bI 1
        simp at j0 j1
        by_cases h10 : op = 10
        · subst h10
          obtain rfl : R = (⟨[r0, r1, r2, r3, r4, r5, r6, r7], X, q⟩, M, 10) := by rw [HR2.out, if_pos rfl]
          clear HR2
          go_wp2
          go_ret
          exact ⟨rfl, D5.out.wk, D5.out.bel⟩
        · have t10 : (op == 10) = false := by simpa using h10
          obtain rfl : R = (⟨[r0, r1, r2, r3, r4, r5, r6, r7].set ka N, X, q⟩, M, 0) := by rw [HR2.out, if_neg h10]
          clear HR2 h10
          have g0 := D5.out.wk.reg hka
          have f0 : z5.frozen? ⟨G, ka, none⟩ = false := Lib.frozen_of_heap D5.out.wk.bO ka
          have D6 := hide ((D5.out.wk.setReg hka N).stays (Below.refl _ _).drew)
          have B6 := hide ((D5.out.bel.setCell (p := ⟨G, ka, none⟩) D5.out.wk.hB (.int .i64 N)).drew)
          go_wp2_with fail
          go_region
          go_wp2
          go_ret
          exact ⟨rfl, D6.out, B6.out⟩
    | false =>
      clear hc0
      go_enter Try.func30, Try.ntmps30
      go_wp2_with fail
      rw [HV.out, HIE.out]
      clear HV HIE
      refine wp_region_class Sc (by kernel_rfl) (by kernel_rfl) K0.out ?_
      repeat (go_big_quiet_step ((go_at_call 40; with_reducible exact unhide (CT1 _))))
      refine wpQuiet_nil ?_
      intro s
      have D1 := hide ((HSC.out _).1 s.h)
      obtain ⟨z1, hz1⟩ := s
      dsimp only at D1 ⊢
      clear i0 i1 i2 i3 g10 hz1 CT1 K0 KP HSC D0 hne Sc
      have j0 := Lib.cell_of_heap D1.out.bI 0
      have j1 := Lib.cell_of_heap D1.out.bI 1
      have j2 := Lib.cell_of_heap D1.out.bI 2
      have j3 := Lib.cell_of_heap D1.out.bI 3
      simp at j0 j1 j2 j3
      go_wp2_with fail
      refine (unhide (CVL _ D1.out.wk HM.out)).mono ?_
      rintro e z2 ⟨rfl, hb2⟩
      have D2 := hide (D1.out.stays hb2)
      clear hb2 j0 j1 j2 j3 D1 CVL
      by_cases hF : F = 0
      case neg =>
        have hF' : (F != 0) = true := by simpa using hF
        obtain rfl : R = (⟨[r0, r1, r2, r3, r4, r5, r6, r7], p, q⟩, mem, F) := by rw [HR1.out, if_pos hF]
        clear HR1 ER CWR CNX hF
        go_wp2
        go_ret
        exact ⟨rfl, D2.out.wk, D2.out.bel⟩
      subst hF
      have HR2 : Hid (R = if op = 10 then (⟨[r0, r1, r2, r3, r4, r5, r6, r7], X, q⟩, M, 10) else (⟨[r0, r1, r2, r3, r4, r5, r6, r7].set ka N, X, q⟩, M, 0)) := by
        refine hide ?_
        rw [HR1.out, if_neg (by simp)]
        rfl
      clear HR1 ER
      have j0 := Lib.cell_of_heap D2.out.bI 0
      have j1 := Lib.cell_of_heap D2.out.bI 1
      have j2 := Lib.cell_of_heap D2.out.bI 2
      have j3 := Lib.cell_of_heap D2.out.bI 3
      simp at j0 j1 j2 j3
      go_wp2_with fail
      refine (unhide (CWR _ D2.out.wk HM.out)).mono ?_
      rintro e z3 ⟨rfl, hz3, hb3, hk3⟩
      have D3 : Hid (DoZ B G I (.slice mo n mc) [r0, r1, r2, r3, r4, r5, r6, r7] p q M #[.int .i64 op, .int .i64 (ka : Int), .int .i64 b, .int .i64 c] z z3) :=
        hide ⟨hz3, (hk3 I D2.out.bI.lt (fun e => Lib.ownBlock_ne D2.out.wk.mo D2.out.bI (by decide) e)).trans D2.out.bI, D2.out.bel.trans hb3⟩
      clear hz3 hb3 hk3 j0 j1 j2 j3 D2 CWR
      have j0 := Lib.cell_of_heap D3.out.bI 0
      have j1 := Lib.cell_of_heap D3.out.bI 1
      have j2 := Lib.cell_of_heap D3.out.bI 2
      have j3 := Lib.cell_of_heap D3.out.bI 3
      simp at j0 j1 j2 j3
      have b3 : Box z3 G #[.int .i64 r0, .int .i64 r1, .int .i64 r2, .int .i64 r3, .int .i64 r4, .int .i64 r5, .int .i64 r6, .int .i64 r7, .int .i64 p, .int .i64 q, (.slice mo n mc)] 61 := D3.out.wk.bO
      have g0 := Lib.cell_of_heap b3 0
      have g1 := Lib.cell_of_heap b3 1
      have g2 := Lib.cell_of_heap b3 2
      have g3 := Lib.cell_of_heap b3 3
      have g4 := Lib.cell_of_heap b3 4
      have g5 := Lib.cell_of_heap b3 5
      have g6 := Lib.cell_of_heap b3 6
      have g7 := Lib.cell_of_heap b3 7
      have g8 := Lib.cell_of_heap b3 8
      have g9 := Lib.cell_of_heap b3 9
      simp at g0 g1 g2 g3 g4 g5 g6 g7 g8 g9
      clear b3
      have CN1 := fun z (h : Below z3.heap.size z3 z) => hide ((unhide (CNX z)).mono fun e w' (h9 : _ ∧ _) => And.intro h9.1 (D3.out.stays (h.trans (h9.2.mono h.size))))
      go_wp2_with fail
      go_region_with ((go_at_call 47; refine (unhide (CN1 _ ((Below.refl _ _).drew))).mono ?_; rintro e z4 ⟨rfl, hd4⟩; have D4 := hide hd4; clear hd4; have b4 : Box z4 G #[.int .i64 r0, .int .i64 r1, .int .i64 r2, .int .i64 r3, .int .i64 r4, .int .i64 r5, .int .i64 r6, .int .i64 r7, .int .i64 p, .int .i64 q, (.slice mo n mc)] 61 := D4.out.wk.bO; have k8 := Lib.cell_of_heap b4 8; simp at k8; have f8 := Lib.frozen_of_heap b4 8; clear b4))
      all_goals
        have D5 := hide (D4.out.setPc rfl hIG X)
        obtain ⟨z5, h5⟩ : ∃ z5, z4.setCell ⟨G, 8, none⟩ (.int .i64 X) = z5 := ⟨_, rfl⟩
        rw [h5] at D5 ⊢
        clear h5 D4 k8 f8 CN1 D3 g0 g1 g2 g3 g4 g5 g6 g7 g8 g9 j0 j1 j2 j3 CNX
        have j0 := Lib.cell_of_heap D5.out.bI 0
        have j1 := Lib.cell_of_heap D5.out.bI 1
        simp at j0 j1
        by_cases h10 : op = 10
        · subst h10
          obtain rfl : R = (⟨[r0, r1, r2, r3, r4, r5, r6, r7], X, q⟩, M, 10) := by rw [HR2.out, if_pos rfl]
          clear HR2
          go_wp2
          go_ret
          exact ⟨rfl, D5.out.wk, D5.out.bel⟩
        · have t10 : (op == 10) = false := by simpa using h10
          obtain rfl : R = (⟨[r0, r1, r2, r3, r4, r5, r6, r7].set ka N, X, q⟩, M, 0) := by rw [HR2.out, if_neg h10]
          clear HR2 h10
          have g0 := D5.out.wk.reg hka
          have f0 : z5.frozen? ⟨G, ka, none⟩ = false := Lib.frozen_of_heap D5.out.wk.bO ka
          have D6 := hide ((D5.out.wk.setReg hka N).stays (Below.refl _ _).drew)
          have B6 := hide ((D5.out.bel.setCell (p := ⟨G, ka, none⟩) D5.out.wk.hB (.int .i64 N)).drew)
          go_wp2_with fail
          go_region
          go_wp2
          go_ret
          exact ⟨rfl, D6.out, B6.out⟩
end Go.Proofs.Ytmchgmpdhfefjaa
