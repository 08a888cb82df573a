/-
  Walks: the place of a monitor by its name, by both sides.
-/
import Derived.Test.YtkcodlkaaoahdaaChecked
import Derived.Test.YtkcodlkaaoahdaaMatP
import Derived.Test.YtkcodlkaaoahdaaTreeX
import Derived.BigQuiet
import Derived.WalkSmall
namespace Go.Proofs.Ytkcodlkaaoahdaa
open Go.RowKit

set_option maxRecDepth 100000 in
set_option maxHeartbeats 2000000 in
theorem specMonitorAt_any (nv mv pv : Value) (ms : List Mo) (s : ByteArray) (w : World) (hN : SlV nv) (hM : MosAt w mv ms) (hP : SlV pv) (hl : ms.length ≤ 1048576) :
    Calls Try.prog 12 #[.agg #[nv, mv, pv], .string s] w fun e w' => e = .returned (.int .i64 (firstAt (monN s) ms)) ∧ Below w.heap.size w w' := by
  have hb1 : Below w.heap.size w (w.alloc (.cells #[nv, mv, pv] 38)) := (Below.refl _ _).alloc (Nat.le_refl _) _
  have HM := hide (hM.stays hb1)
  have HX := hide (Boxed.made w nv mv pv 38)
  have HB := hide hb1
  clear hb1
  obtain ⟨ao, an, ac, rfl⟩ := hN
  obtain ⟨mo, mc, rfl, _⟩ := hM
  obtain ⟨po, pn, pc, rfl⟩ := hP
  obtain ⟨n, en⟩ : ∃ n, ms.length = n := ⟨_, rfl⟩
  have EN := hide en
  rw [en] at HM HX HB hl ⊢
  clear en
  go_enter Try.func12, Try.ntmps12
  go_wp2
  generalize w.alloc (.cells #[.slice ao an ac, .slice mo n mc, .slice po pn pc] 38) = W1 at *
  go_loopw [5] (fun iv wr => SchR W1 (monN s) ms iv wr) (fun iv _ => n - (intOf iv).toNat)
  case atStart => exact ⟨0, by omega, rfl, Below.refl _ _, NoneTo.zero _ _⟩
  case round =>
    obtain ⟨i, hi, rfl, HB2, HN⟩ := hrel
    rw [EN.out] at hi
    obtain ⟨c0, c1, c2, _⟩ := HX.out.stays HB2.out
    have HBB := hide (HB.out.trans (HB2.out.mono HB.out.size))
    by_cases hlt : i < n
    · have hlt' : (i : Int) < (n : Int) := by omega
      have hi0 : (0 : Int) ≤ (i : Int) := by omega
      have hix : i < ms.length := by rw [EN.out]; exact hlt
      obtain ⟨ao', c', e1, hc1⟩ := HM.out.stays HB2.out
      injection e1 with e2 e3 e4
      subst e2
      obtain ⟨a, vv, qv, ev, rfl, hpb, hx⟩ := hc1 i hix
      obtain ⟨p, hpa⟩ : ∃ p, a.add (i * 4) = p := ⟨_, rfl⟩
      have d0 := hx.c0
      rw [hpa] at d0
      have HH := hide (HN.out.hit hix)
      have HS := hide (HN.out.step (i := i))
      obtain ⟨x, ex⟩ : ∃ x, ms[i] = x := ⟨_, rfl⟩
      simp only [ex] at d0 HH HS
      clear hx hc1 e3 e4 ex
      by_cases hxs : x.name = s
      · have HF := hide (HH.out (decide_eq_true hxs))
        subst hxs
        go_wp2
        go_ret
        exact ⟨by rw [HF.out]; rfl, HBB.out⟩
      · have hxs' : (x.name.toList == s.toList) = false := by rw [Bool.eq_false_iff]; exact fun h => hxs (str_beq.1 h)
        have HS2 := hide (HS.out (fun _ => decide_eq_false hxs))
        go_wp2
        go_roundw
        case rel => exact ⟨i + 1, by rw [EN.out]; omega, by go_num, HB2.out, HS2.out⟩
        case measure => simp [intOf]; omega
    · have hlt' : ¬ (i : Int) < (n : Int) := by omega
      have HF := hide (HN.out.none (by rw [EN.out]; omega))
      go_wp2
      go_ret
      exact ⟨by rw [HF.out]; rfl, HBB.out⟩

set_option maxHeartbeats 1000000 in
theorem monIs_any (m : Mo) (vv qv ev : Value) (p : Addr) (s : ByteArray) (w : World) (h1 : SlV vv) (h2 : SlV qv) (h3 : SlV ev) (hp : p.block < w.heap.size) (hc : w.cell? p = some (.string s)) :
    Calls Try.prog 28 #[.agg #[.string m.name, vv, qv, ev], .pointer (some p)] w fun e w' => e = .returned (.bool (monN s m)) ∧ Below w.heap.size w w' := by
  have hb1 : Below w.heap.size w (w.alloc (.cells #[.string m.name, vv, qv, ev] 54)) := (Below.refl _ _).alloc (Nat.le_refl _) _
  have HB := hide hb1
  have hc1 := (hb1.cell hp).trans hc
  have d0 : (w.alloc (.cells #[.string m.name, vv, qv, ev] 54)).cell? ⟨w.heap.size, 0, none⟩ = some (.string m.name) := by rw [World.cell?_alloc_new]; rfl
  clear hb1 hc
  obtain ⟨o1, n1, k1, rfl⟩ := h1
  obtain ⟨o2, n2, k2, rfl⟩ := h2
  obtain ⟨o3, n3, k3, rfl⟩ := h3
  obtain ⟨x, ex⟩ : ∃ x, m.name = x := ⟨_, rfl⟩
  have EQ : Hid ((x.toList == s.toList) = monN s m) := by
    show _ = _
    rw [monN, ex]
    by_cases h : x = s
    · rw [decide_eq_true h]; exact str_beq.2 h
    · rw [decide_eq_false h, Bool.eq_false_iff]; exact fun q => h (str_beq.1 q)
  rw [ex] at HB hc1 d0 ⊢
  clear ex
  go_enter Try.func28, Try.ntmps28
  go_wp2
  go_ret
  exact ⟨by rw [← EQ.out]; rfl, HB.out⟩

set_option maxRecDepth 100000 in
set_option maxHeartbeats 2000000 in
theorem indexMon_any (mv : Value) (ms : List Mo) (p : Addr) (s : ByteArray) (w : World) (hM : MosAt w mv ms) (hl : ms.length ≤ 1048576) (hp : p.block < w.heap.size) (hc : w.cell? p = some (.string s)) :
    Calls Try.prog 27 #[mv, .func (.func 28) #[] #[.pointer (some p)]] w fun e w' => e = .returned (.int .i64 (firstAt (monN s) ms)) ∧ Below w.heap.size w w' := by
  have HM := hide hM
  have HC := hide hc
  obtain ⟨mo, mc, rfl, _⟩ := hM
  obtain ⟨n, en⟩ : ∃ n, ms.length = n := ⟨_, rfl⟩
  have EN := hide en
  rw [en] at HM hl ⊢
  clear en hc
  go_enter Try.func27, Try.ntmps27
  go_wp2
  go_loopw [8] (fun iv wr => SchR w (monN s) ms iv wr) (fun iv _ => n - (intOf iv).toNat)
  case atStart => exact ⟨0, by omega, rfl, Below.refl _ _, NoneTo.zero _ _⟩
  case round =>
    obtain ⟨i, hi, rfl, HB2, HN⟩ := hrel
    rw [EN.out] at hi
    by_cases hlt : i < n
    · have hlt' : (i : Int) < (n : Int) := by omega
      have hi0 : (0 : Int) ≤ (i : Int) := by omega
      have hix : i < ms.length := by rw [EN.out]; exact hlt
      obtain ⟨ao', c', e1, hc1⟩ := HM.out.stays HB2.out
      injection e1 with e2 e3 e4
      subst e2
      obtain ⟨a, vv, qv, ev, rfl, hpb, hx⟩ := hc1 i hix
      obtain ⟨q, hpa⟩ : ∃ q, a.add (i * 4) = q := ⟨_, rfl⟩
      rw [hpa] at hx
      have CM := hide (monIs_any ms[i] vv qv ev p s wr hx.vars.sl hx.queues.sl (by obtain ⟨_, _, e, _⟩ := hx.ents; exact ⟨_, _, _, e⟩) (Nat.lt_of_lt_of_le hp HB2.out.size) ((HB2.out.cell hp).trans HC.out))
      obtain ⟨d0, d1, d2, d3, ⟨_, _, rfl, _⟩, ⟨_, _, rfl, _⟩, ⟨_, _, rfl, _⟩⟩ := hx
      have HH := hide (HN.out.hit hix)
      have HS := hide (HN.out.step (i := i))
      obtain ⟨x, ex⟩ : ∃ x, ms[i] = x := ⟨_, rfl⟩
      simp only [ex] at d0 d1 d2 d3 HH HS CM
      clear hc1 e3 e4 ex
      cases hq : monN s x with
      | true =>
        have HF := hide (HH.out hq)
        rw [hq] at CM
        clear hq HS HH
        go_wp2_with fail
        refine (unhide CM).mono ?_
        rintro e w1 ⟨rfl, hb1⟩
        have HB3 := hide (HB2.out.trans (hb1.mono HB2.out.size))
        clear hb1 d0 d1 d2 d3
        go_wp2
        go_ret
        exact ⟨by rw [HF.out]; rfl, HB3.out⟩
      | false =>
        have HS2 := hide (HS.out (fun _ => hq))
        rw [hq] at CM
        clear hq HS HH
        go_wp2_with fail
        refine (unhide CM).mono ?_
        rintro e w1 ⟨rfl, hb1⟩
        have HB3 := hide (HB2.out.trans (hb1.mono HB2.out.size))
        clear hb1 d0 d1 d2 d3
        go_wp2
        go_roundw
        case rel => exact ⟨i + 1, by rw [EN.out]; omega, by go_num, HB3.out, HS2.out⟩
        case measure => simp [intOf]; omega
    · have hlt' : ¬ (i : Int) < (n : Int) := by omega
      have HF := hide (HN.out.none (by rw [EN.out]; omega))
      go_wp2
      go_ret
      exact ⟨by rw [HF.out]; rfl, HB2.out⟩

set_option maxHeartbeats 1000000 in
theorem implMonitorAt_any (nv mv pv : Value) (ms : List Mo) (s : ByteArray) (w : World) (hN : SlV nv) (hM : MosAt w mv ms) (hP : SlV pv) (hl : ms.length ≤ 1048576) :
    Calls Try.prog 14 #[.agg #[nv, mv, pv], .string s] w fun e w' => e = .returned (.int .i64 (firstAt (monN s) ms)) ∧ Below w.heap.size w w' := by
  have hb1 : Below w.heap.size w (w.alloc (.cells #[nv, mv, pv] 38)) := (Below.refl _ _).alloc (Nat.le_refl _) _
  have hb2 : Below w.heap.size w ((w.alloc (.cells #[nv, mv, pv] 38)).alloc (.cells #[.string s] 9)) := hb1.alloc hb1.size _
  have hz : (w.alloc (.cells #[nv, mv, pv] 38)).heap.size = w.heap.size + 1 := by simp
  have hz2 : ((w.alloc (.cells #[nv, mv, pv] 38)).alloc (.cells #[.string s] 9)).heap.size = w.heap.size + 2 := by simp
  have HM := hide (hM.stays hb2)
  have hs : ((w.alloc (.cells #[nv, mv, pv] 38)).alloc (.cells #[.string s] 9)).cell? ⟨w.heap.size + 1, 0, none⟩ = some (.string s) := by rw [← hz, World.cell?_alloc_new]; rfl
  have HX := ((Boxed.made w nv mv pv 38).stays ((Below.refl _ (w.alloc (.cells #[nv, mv, pv] 38))).alloc (Nat.le_refl _) (.cells #[.string s] 9))).c1
  have HB := hide hb2
  have CI := hide (indexMon_any mv ms ⟨w.heap.size + 1, 0, none⟩ s _ HM.out hl (by rw [hz2]; show w.heap.size + 1 < w.heap.size + 2; omega) hs)
  clear hb1 hb2 hz hs hz2
  obtain ⟨ao, an, ac, rfl⟩ := hN
  obtain ⟨mo, mc, rfl, _⟩ := hM
  obtain ⟨po, pn, pc, rfl⟩ := hP
  go_enter Try.func14, Try.ntmps14
  go_wp2_with fail
  refine (unhide CI).mono ?_
  rintro e w1 ⟨rfl, hb1⟩
  have HB3 := hide (HB.out.trans (hb1.mono HB.out.size))
  clear hb1
  go_wp2
  go_ret
  exact ⟨rfl, HB3.out⟩
end Go.Proofs.Ytkcodlkaaoahdaa
