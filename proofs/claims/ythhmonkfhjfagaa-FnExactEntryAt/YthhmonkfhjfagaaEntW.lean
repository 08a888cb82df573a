/-
  Walks: the place of an entry by its name, by both sides.
-/
import Derived.Test.YthhmonkfhjfagaaMatW
import Derived.Test.YthhmonkfhjfagaaTreeY
namespace Go.Proofs.Ythhmonkfhjfagaa
open Go.RowKit

/-- The place of the first entry of this name in that monitor. -/
def entAt (ms : List Mo) (m : Int) (s : ByteArray) : Int := if 0 ≤ m ∧ m < (ms.length : Int) then firstAt (entN s) (ms.getD m.toNat default).ents else -1
theorem entAt_in {ms : List Mo} {k : Nat} (hk : k < ms.length) (s : ByteArray) : entAt ms (k : Int) s = firstAt (entN s) ms[k].ents := by
  rw [entAt, if_pos ⟨by omega, by omega⟩, Int.toNat_natCast, List.getD_eq_getElem?_getD, List.getElem?_eq_getElem hk]
  rfl
theorem entAt_out {ms : List Mo} {m : Int} (h : ¬ (0 ≤ m ∧ m < (ms.length : Int))) (s : ByteArray) : entAt ms m s = -1 := by rw [entAt, if_neg h]
theorem EnsAt.sl {w : World} {v : Value} {xs : List En} (h : EnsAt w v xs) : SlV v := by obtain ⟨a, c, e, _⟩ := h; exact ⟨_, _, _, e⟩

set_option maxHeartbeats 1000000 in
theorem entIs_any (m : En) (p : Addr) (s : ByteArray) (w : World) (hp : p.block < w.heap.size) (hc : w.cell? p = some (.string s)) :
    Calls Try.prog 18 #[.agg #[.string m.name, .string m.param, .int .i64 m.body], .pointer (some p)] w fun e w' => e = .returned (.bool (entN s m)) ∧ Below w.heap.size w w' := by
  have hb1 : Below w.heap.size w (w.alloc (.cells #[.string m.name, .string m.param, .int .i64 m.body] 46)) := (Below.refl _ _).alloc (Nat.le_refl _) _
  have HB := hide hb1
  have hc1 := (hb1.cell hp).trans hc
  have d0 : (w.alloc (.cells #[.string m.name, .string m.param, .int .i64 m.body] 46)).cell? ⟨w.heap.size, 0, none⟩ = some (.string m.name) := by rw [World.cell?_alloc_new]; rfl
  clear hb1 hc
  obtain ⟨x, ex⟩ : ∃ x, m.name = x := ⟨_, rfl⟩
  have EQ : Hid ((x.toList == s.toList) = entN s m) := by
    show _ = _
    rw [entN, ex]
    by_cases h : x = s
    · rw [decide_eq_true h]; exact str_beq.2 h
    · rw [decide_eq_false h, Bool.eq_false_iff]; exact fun q => h (str_beq.1 q)
  rw [ex] at HB hc1 d0 ⊢
  clear ex
  go_enter Try.func18, Try.ntmps18
  go_wp2
  go_ret
  exact ⟨by rw [← EQ.out]; rfl, HB.out⟩

set_option maxRecDepth 100000 in
set_option maxHeartbeats 2000000 in
theorem indexEnt_any (mv : Value) (ms : List En) (p : Addr) (s : ByteArray) (w : World) (hM : EnsAt w mv ms) (hl : ms.length ≤ 1048576) (hp : p.block < w.heap.size) (hc : w.cell? p = some (.string s)) :
    Calls Try.prog 17 #[mv, .func (.func 18) #[] #[.pointer (some p)]] w fun e w' => e = .returned (.int .i64 (firstAt (entN s) ms)) ∧ Below w.heap.size w w' := by
  have HM := hide hM
  have HC := hide hc
  obtain ⟨mo, mc, rfl, _⟩ := hM
  obtain ⟨n, en⟩ : ∃ n, ms.length = n := ⟨_, rfl⟩
  have EN := hide en
  rw [en] at HM hl ⊢
  clear en hc
  go_enter Try.func17, Try.ntmps17
  go_wp2
  go_loopw [8] (fun iv wr => SchR w (entN s) ms iv wr) (fun iv _ => n - (intOf iv).toNat)
  case atStart => exact ⟨0, by omega, rfl, Below.refl _ _, NoneTo.zero _ _⟩
  case round =>
    obtain ⟨i, hi, rfl, HB2, HN⟩ := hrel
    rw [EN.out] at hi
    by_cases hlt : i < n
    · have hlt' : (i : Int) < (n : Int) := by omega
      have hi0 : (0 : Int) ≤ (i : Int) := by omega
      have hix : i < ms.length := by rw [EN.out]; exact hlt
      obtain ⟨ao', c', e1, hc1⟩ := HM.out.stays HB2.out
      injection e1 with e2 e3 e4
      subst e2
      obtain ⟨a, rfl, hpb, hx⟩ := hc1 i hix
      obtain ⟨q, hpa⟩ : ∃ q, a.add (i * 3) = q := ⟨_, rfl⟩
      rw [hpa] at hx
      have CM := hide (entIs_any ms[i] p s wr (Nat.lt_of_lt_of_le hp HB2.out.size) ((HB2.out.cell hp).trans HC.out))
      obtain ⟨d0, d1, d2⟩ := hx
      have HH := hide (HN.out.hit hix)
      have HS := hide (HN.out.step (i := i))
      obtain ⟨x, ex⟩ : ∃ x, ms[i] = x := ⟨_, rfl⟩
      simp only [ex] at d0 d1 d2 HH HS CM
      clear hc1 e3 e4 ex
      cases hq : entN s x with
      | true =>
        have HF := hide (HH.out hq)
        rw [hq] at CM
        clear hq HS HH
        go_wp2_with fail
        refine (unhide CM).mono ?_
        rintro e w1 ⟨rfl, hb1⟩
        have HB3 := hide (HB2.out.trans (hb1.mono HB2.out.size))
        clear hb1 d0 d1 d2
        go_wp2
        go_ret
        exact ⟨by rw [HF.out]; rfl, HB3.out⟩
      | false =>
        have HS2 := hide (HS.out (fun _ => hq))
        rw [hq] at CM
        clear hq HS HH
        go_wp2_with fail
        refine (unhide CM).mono ?_
        rintro e w1 ⟨rfl, hb1⟩
        have HB3 := hide (HB2.out.trans (hb1.mono HB2.out.size))
        clear hb1 d0 d1 d2
        go_wp2
        go_roundw
        case rel => exact ⟨i + 1, by rw [EN.out]; omega, by go_num, HB3.out, HS2.out⟩
        case measure => simp [intOf]; omega
    · have hlt' : ¬ (i : Int) < (n : Int) := by omega
      have HF := hide (HN.out.none (by rw [EN.out]; omega))
      go_wp2
      go_ret
      exact ⟨by rw [HF.out]; rfl, HB2.out⟩

set_option maxRecDepth 100000 in
set_option maxHeartbeats 2000000 in
theorem specEntryAt_any (nv mv pv : Value) (ms : List Mo) (m : Int) (s : ByteArray) (w : World) (hN : SlV nv) (hM : MosAt w mv ms) (hP : SlV pv) (hl : ms.length ≤ 1048576) (he : ∀ x ∈ ms, x.ents.length ≤ 1048576) :
    Calls Try.prog 5 #[.agg #[nv, mv, pv], .int .i64 m, .string s] w fun e w' => e = .returned (.int .i64 (entAt ms m s)) ∧ Below w.heap.size w w' := by
  have hb1 : Below w.heap.size w (w.alloc (.cells #[nv, mv, pv] 33)) := (Below.refl _ _).alloc (Nat.le_refl _) _
  have HM := hide (hM.stays hb1)
  have HX := hide (Boxed.made w nv mv pv 33)
  have HB := hide hb1
  have CI := fun w => hide (l01In_gen m 0 ((ms.length : Int) - 1) w)
  clear hb1
  obtain ⟨ao, an, ac, rfl⟩ := hN
  obtain ⟨mo, mc, rfl, _⟩ := hM
  obtain ⟨po, pn, pc, rfl⟩ := hP
  obtain ⟨n, en⟩ : ∃ n, ms.length = n := ⟨_, rfl⟩
  have EN := hide en
  have HE := hide he
  rw [en] at HM HX HB CI hl ⊢
  clear en he
  obtain ⟨c0, c1, c2, hlt0⟩ := HX.out
  cases hin : inZ 0 ((n : Int) - 1) m with
  | false =>
    have HF : Hid (entAt ms m s = -1) := entAt_out (fun q => by
      rw [EN.out] at q
      have := inZ_yes.2 (show 0 ≤ m ∧ m ≤ (n : Int) - 1 by omega)
      rw [hin] at this
      cases this) s
    rw [hin] at CI
    clear hin
    go_enter Try.func5, Try.ntmps5
    go_wp2_with (go_at_call 12; refine (unhide (CI _)).mono ?_; rintro e w3 ⟨rfl, rfl⟩)
    go_ret
    exact ⟨by rw [HF.out]; rfl, HB.out⟩
  | true =>
    have hin2 := inZ_yes.1 hin
    obtain ⟨k, ek⟩ : ∃ k : Nat, m = (k : Int) := ⟨m.toNat, by omega⟩
    subst ek
    have hk : k < n := by omega
    have hkx : k < ms.length := by rw [EN.out]; exact hk
    have hk0 : (0 : Int) ≤ (k : Int) := by omega
    have hk' : (k : Int) < (n : Int) := by omega
    have HF : Hid (entAt ms (k : Int) s = firstAt (entN s) ms[k].ents) := entAt_in hkx s
    have hle := HE.out _ (List.getElem_mem hkx)
    rw [hin] at CI
    obtain ⟨x, ex⟩ : ∃ x, ms[k] = x := ⟨_, rfl⟩
    rw [ex] at HF hle
    have EX := hide ex
    obtain ⟨n2, en2⟩ : ∃ n2, x.ents.length = n2 := ⟨_, rfl⟩
    have EN2 := hide en2
    rw [en2] at hle
    clear hin hin2 ex en2
    go_enter Try.func5, Try.ntmps5
    go_wp2_with (go_at_call 12; refine (unhide (CI _)).mono ?_; rintro e w3 ⟨rfl, rfl⟩)
    generalize w.alloc (.cells #[.slice ao an ac, .slice mo n mc, .slice po pn pc] 33) = W1 at *
    go_loopw [7] (fun iv wr => SchR W1 (entN s) x.ents iv wr) (fun iv _ => n2 - (intOf iv).toNat)
    case atStart => exact ⟨0, by omega, rfl, Below.refl _ _, NoneTo.zero _ _⟩
    case round =>
      clear c0 c1 c2 hlt0
      obtain ⟨i, hi, rfl, HB2, HN⟩ := hrel
      rw [EN2.out] at hi
      obtain ⟨c0, c1, c2, _⟩ := HX.out.stays HB2.out
      have HBB := hide (HB.out.trans (HB2.out.mono HB.out.size))
      obtain ⟨ao', c', e1, hc1⟩ := HM.out.stays HB2.out
      injection e1 with e2 e3 e4
      subst e2
      obtain ⟨a, vv, qv, ev, rfl, hpb, hx⟩ := hc1 k hkx
      obtain ⟨p, hpa⟩ : ∃ p, a.add (k * 4) = p := ⟨_, rfl⟩
      rw [hpa, EX.out] at hx
      have d3 := hx.c3
      obtain ⟨eo, ec, rfl, hec⟩ := hx.ents
      rw [EN2.out] at d3
      clear hx hc1 e3 e4
      by_cases hlt : i < n2
      · have hlt' : (i : Int) < (n2 : Int) := by omega
        have hi0 : (0 : Int) ≤ (i : Int) := by omega
        have hix : i < x.ents.length := by rw [EN2.out]; exact hlt
        obtain ⟨b, rfl, _, hy⟩ := hec i hix
        obtain ⟨r, hra⟩ : ∃ r, b.add (i * 3) = r := ⟨_, rfl⟩
        have f0 := hy.c0
        rw [hra] at f0
        have HH := hide (HN.out.hit hix)
        have HS := hide (HN.out.step (i := i))
        obtain ⟨y, ey⟩ : ∃ y, x.ents[i] = y := ⟨_, rfl⟩
        simp only [ey] at f0 HH HS
        clear hy hec ey
        by_cases hxs : y.name = s
        · have HF2 := hide (HF.out.trans (HH.out (decide_eq_true hxs)))
          subst hxs
          go_wp2
          go_ret
          exact ⟨by rw [HF2.out]; rfl, HBB.out⟩
        · have hxs' : (y.name.toList == s.toList) = false := by rw [Bool.eq_false_iff]; exact fun h => hxs (str_beq.1 h)
          have HS2 := hide (HS.out (fun _ => decide_eq_false hxs))
          go_wp2
          go_roundw
          case rel => exact ⟨i + 1, by rw [EN2.out]; omega, by go_num, HB2.out, HS2.out⟩
          case measure => simp [intOf]; omega
      · have hlt' : ¬ (i : Int) < (n2 : Int) := by omega
        have HF2 := hide (HF.out.trans (HN.out.none (by rw [EN2.out]; omega)))
        clear hec
        go_wp2
        go_ret
        exact ⟨by rw [HF2.out]; rfl, HBB.out⟩

end Go.Proofs.Ythhmonkfhjfagaa
