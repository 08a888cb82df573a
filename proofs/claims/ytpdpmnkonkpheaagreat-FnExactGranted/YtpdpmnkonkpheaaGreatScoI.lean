/-
  Scopes, by the specification: is a name in a list?
-/
import Derived.Test.YtpdpmnkonkpheaaGreatChecked
import Derived.Test.YtpdpmnkonkpheaaGreatImvF
import Derived.BigQuiet
import Derived.WalkSmall
import Derived.Test.YtpdpmnkonkpheaaGreatScoV
import Derived.Test.YtpdpmnkonkpheaaGreatRowQ
namespace Go.Proofs.YtpdpmnkonkpheaaGreat
open Go.RowKit

def InR (w : World) (xs : List ByteArray) (s : ByteArray) (n : Nat) (iv : Value) (wr : World) : Prop := ∃ i : Nat, i ≤ n ∧ iv = .int .i64 i ∧ wr = w ∧ Hid (∀ j, j < i → xs[j]? ≠ some s)

set_option maxRecDepth 100000 in
set_option maxHeartbeats 1000000 in
theorem l08In_any (v : Value) (xs : List ByteArray) (s : ByteArray) (w : World) (h : StrsAt w v xs) (hl : xs.length ≤ 1048576) :
    Calls Tryz.prog 33 #[v, .string s] w fun e w' => e = .returned (.bool (memB xs s)) ∧ w' = w := by
  have H := hide h
  obtain ⟨ao, c, rfl, _⟩ := h
  obtain ⟨n, en⟩ : ∃ n, xs.length = n := ⟨_, rfl⟩
  have EN := hide en
  rw [en] at H hl ⊢
  clear en
  go_enter Tryz.func33, Tryz.ntmps33
  go_wp2
  go_loopw [5] (fun iv wr => InR w xs s n iv wr) (fun iv _ => n - (intOf iv).toNat)
  case atStart => exact ⟨0, by omega, rfl, rfl, fun j hj => absurd hj (Nat.not_lt_zero j)⟩
  case round =>
    obtain ⟨i, hi, rfl, rfl, HN⟩ := hrel
    by_cases hlt : i < n
    · have hlt' : (i : Int) < (n : Int) := by omega
      have hi0 : (0 : Int) ≤ (i : Int) := by omega
      have hix : i < xs.length := by rw [EN.out]; exact hlt
      obtain ⟨ao', c', e1, hc1⟩ := H.out
      injection e1 with e2 e3 e4
      subst e2
      obtain ⟨a, rfl, _, hx⟩ := hc1 i hix
      have EX : Hid (xs[i]? = some xs[i]) := List.getElem?_eq_getElem hix
      have HM : Hid (xs[i] ∈ xs) := List.getElem_mem hix
      obtain ⟨x, ex⟩ : ∃ x, xs[i] = x := ⟨_, rfl⟩
      rw [ex] at hx EX HM
      clear hc1 e3 e4 ex
      by_cases hxs : x = s
      · have HF : Hid (memB xs s = true) := memB_iff.2 (by rw [← hxs]; exact HM.out)
        subst hxs
        go_wp2
        go_ret
        exact ⟨by rw [HF.out]; rfl, rfl⟩
      · have hxs' : (x.toList == s.toList) = false := by rw [Bool.eq_false_iff]; exact fun h => hxs (str_beq.1 h)
        have HN2 : Hid (∀ j, j < i + 1 → xs[j]? ≠ some s) := fun j hj => by
          rcases Nat.lt_succ_iff_lt_or_eq.1 hj with hj | hj
          · exact HN.out j hj
          · subst hj; rw [EX.out]; exact fun q => hxs (Option.some.inj q)
        go_wp2
        go_roundw
        case rel => exact ⟨i + 1, by omega, by go_num, rfl, HN2⟩
        case measure => simp [intOf]; omega
    · have hlt' : ¬ (i : Int) < (n : Int) := by omega
      have HF : Hid (memB xs s = false) := memB_no.2 (fun q => by
        obtain ⟨j, hj, e⟩ := List.getElem_of_mem q
        exact HN.out j (by rw [EN.out] at hj; omega) (by rw [List.getElem?_eq_getElem hj, e]))
      go_wp2
      go_ret
      exact ⟨by rw [HF.out]; rfl, rfl⟩
end Go.Proofs.YtpdpmnkonkpheaaGreat

namespace Go.Proofs.YtpdpmnkonkpheaaGreat
open Go.RowKit

/-- The place of the first entry of this name in that monitor. -/
def entAt (ms : List Mo) (m : Int) (s : ByteArray) : Int := if 0 ≤ m ∧ m < (ms.length : Int) then firstAt (entN s) (ms.getD m.toNat default).ents else -1
theorem entAt_in {ms : List Mo} {k : Nat} (hk : k < ms.length) (s : ByteArray) : entAt ms (k : Int) s = firstAt (entN s) ms[k].ents := by
  rw [entAt, if_pos ⟨by omega, by omega⟩, Int.toNat_natCast, List.getD_eq_getElem?_getD, List.getElem?_eq_getElem hk]
  rfl
theorem entAt_out {ms : List Mo} {m : Int} (h : ¬ (0 ≤ m ∧ m < (ms.length : Int))) (s : ByteArray) : entAt ms m s = -1 := by rw [entAt, if_neg h]
theorem EnsAt.sl {w : World} {v : Value} {xs : List En} (h : EnsAt w v xs) : SlV v := by obtain ⟨a, c, e, _⟩ := h; exact ⟨_, _, _, e⟩

set_option maxRecDepth 100000 in
set_option maxHeartbeats 2000000 in
theorem specEntryAt_any (nv mv pv : Value) (ms : List Mo) (m : Int) (s : ByteArray) (w : World) (hN : SlV nv) (hM : MosAt w mv ms) (hP : SlV pv) (hl : ms.length ≤ 1048576) (he : ∀ x ∈ ms, x.ents.length ≤ 1048576) :
    Calls Tryz.prog 59 #[.agg #[nv, mv, pv], .int .i64 m, .string s] w fun e w' => e = .returned (.int .i64 (entAt ms m s)) ∧ Below w.heap.size w w' := by
  have hb1 : Below w.heap.size w (w.alloc (.cells #[nv, mv, pv] 33)) := (Below.refl _ _).alloc (Nat.le_refl _) _
  have HM := hide (hM.stays hb1)
  have HX := hide (Boxed.made w nv mv pv 33)
  have HB := hide hb1
  have CI := fun w => hide (l01In_gen m 0 ((ms.length : Int) - 1) w)
  clear hb1
  obtain ⟨ao, an, ac, rfl⟩ := hN
  obtain ⟨mo, mc, rfl, _⟩ := hM
  obtain ⟨po, pn, pc, rfl⟩ := hP
  obtain ⟨n, en⟩ : ∃ n, ms.length = n := ⟨_, rfl⟩
  have EN := hide en
  have HE := hide he
  rw [en] at HM HX HB CI hl ⊢
  clear en he
  obtain ⟨c0, c1, c2, hlt0⟩ := HX.out
  cases hin : inZ 0 ((n : Int) - 1) m with
  | false =>
    have HF : Hid (entAt ms m s = -1) := entAt_out (fun q => by
      rw [EN.out] at q
      have := inZ_yes.2 (show 0 ≤ m ∧ m ≤ (n : Int) - 1 by omega)
      rw [hin] at this
      cases this) s
    rw [hin] at CI
    clear hin
    go_enter Tryz.func59, Tryz.ntmps59
    go_wp2_with (go_at_call 31; refine (unhide (CI _)).mono ?_; rintro e w3 ⟨rfl, rfl⟩)
    go_ret
    exact ⟨by rw [HF.out]; rfl, HB.out⟩
  | true =>
    have hin2 := inZ_yes.1 hin
    obtain ⟨k, ek⟩ : ∃ k : Nat, m = (k : Int) := ⟨m.toNat, by omega⟩
    subst ek
    have hk : k < n := by omega
    have hkx : k < ms.length := by rw [EN.out]; exact hk
    have hk0 : (0 : Int) ≤ (k : Int) := by omega
    have hk' : (k : Int) < (n : Int) := by omega
    have HF : Hid (entAt ms (k : Int) s = firstAt (entN s) ms[k].ents) := entAt_in hkx s
    have hle := HE.out _ (List.getElem_mem hkx)
    rw [hin] at CI
    obtain ⟨x, ex⟩ : ∃ x, ms[k] = x := ⟨_, rfl⟩
    rw [ex] at HF hle
    have EX := hide ex
    obtain ⟨n2, en2⟩ : ∃ n2, x.ents.length = n2 := ⟨_, rfl⟩
    have EN2 := hide en2
    rw [en2] at hle
    clear hin hin2 ex en2
    go_enter Tryz.func59, Tryz.ntmps59
    go_wp2_with (go_at_call 31; refine (unhide (CI _)).mono ?_; rintro e w3 ⟨rfl, rfl⟩)
    generalize w.alloc (.cells #[.slice ao an ac, .slice mo n mc, .slice po pn pc] 33) = W1 at *
    go_loopw [7] (fun iv wr => SchR W1 (entN s) x.ents iv wr) (fun iv _ => n2 - (intOf iv).toNat)
    case atStart => exact ⟨0, by omega, rfl, Below.refl _ _, NoneTo.zero _ _⟩
    case round =>
      clear c0 c1 c2 hlt0
      obtain ⟨i, hi, rfl, HB2, HN⟩ := hrel
      rw [EN2.out] at hi
      obtain ⟨c0, c1, c2, _⟩ := HX.out.stays HB2.out
      have HBB := hide (HB.out.trans (HB2.out.mono HB.out.size))
      obtain ⟨ao', c', e1, hc1⟩ := HM.out.stays HB2.out
      injection e1 with e2 e3 e4
      subst e2
      obtain ⟨a, vv, qv, ev, rfl, hpb, hx⟩ := hc1 k hkx
      obtain ⟨p, hpa⟩ : ∃ p, a.add (k * 4) = p := ⟨_, rfl⟩
      rw [hpa, EX.out] at hx
      have d3 := hx.c3
      obtain ⟨eo, ec, rfl, hec⟩ := hx.ents
      rw [EN2.out] at d3
      clear hx hc1 e3 e4
      by_cases hlt : i < n2
      · have hlt' : (i : Int) < (n2 : Int) := by omega
        have hi0 : (0 : Int) ≤ (i : Int) := by omega
        have hix : i < x.ents.length := by rw [EN2.out]; exact hlt
        obtain ⟨b, rfl, _, hy⟩ := hec i hix
        obtain ⟨r, hra⟩ : ∃ r, b.add (i * 3) = r := ⟨_, rfl⟩
        have f0 := hy.c0
        rw [hra] at f0
        have HH := hide (HN.out.hit hix)
        have HS := hide (HN.out.step (i := i))
        obtain ⟨y, ey⟩ : ∃ y, x.ents[i] = y := ⟨_, rfl⟩
        simp only [ey] at f0 HH HS
        clear hy hec ey
        by_cases hxs : y.name = s
        · have HF2 := hide (HF.out.trans (HH.out (decide_eq_true hxs)))
          subst hxs
          go_wp2
          go_ret
          exact ⟨by rw [HF2.out]; rfl, HBB.out⟩
        · have hxs' : (y.name.toList == s.toList) = false := by rw [Bool.eq_false_iff]; exact fun h => hxs (str_beq.1 h)
          have HS2 := hide (HS.out (fun _ => decide_eq_false hxs))
          go_wp2
          go_roundw
          case rel => exact ⟨i + 1, by rw [EN2.out]; omega, by go_num, HB2.out, HS2.out⟩
          case measure => simp [intOf]; omega
      · have hlt' : ¬ (i : Int) < (n2 : Int) := by omega
        have HF2 := hide (HF.out.trans (HN.out.none (by rw [EN2.out]; omega)))
        clear hec
        go_wp2
        go_ret
        exact ⟨by rw [HF2.out]; rfl, HBB.out⟩

end Go.Proofs.YtpdpmnkonkpheaaGreat
