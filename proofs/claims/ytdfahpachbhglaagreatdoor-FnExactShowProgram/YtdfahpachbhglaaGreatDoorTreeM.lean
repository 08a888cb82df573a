/-
  Walks: monitors, entries and processes of a right program, by the specification.
-/
import Derived.Test.YtdfahpachbhglaaGreatDoorImpO
namespace Go.Proofs.YtdfahpachbhglaaGreatDoor
open Go.RowKit

def entB (x : En) : Bool := nameB x.name && nameB x.param
def monB (x : Mo) : Bool := nameB x.name && namesB x.vars 3 && namesB x.queues 2 && inZ 1 3 x.ents.length && x.ents.all entB
def procB (x : Pr) : Bool := nameB x.name && namesB x.uses 3 && namesB x.vars 3
def listsB (ms : List Mo) (ps : List Pr) : Bool := ms.all monB && ps.all procB && (decide ((ms.length : Int) ≤ 3) && inZ 1 4 ps.length)

def SsIn (xs : List ByteArray) : Prop := xs.length ≤ 1048576 ∧ ∀ x ∈ xs, x.size ≤ 1048576
structure MoIn (x : Mo) : Prop where
  name : x.name.size ≤ 1048576
  vars : SsIn x.vars
  queues : SsIn x.queues
  len : x.ents.length ≤ 1048576
  ents : ∀ e ∈ x.ents, e.name.size ≤ 1048576 ∧ e.param.size ≤ 1048576
structure PrIn (x : Pr) : Prop where
  name : x.name.size ≤ 1048576
  uses : SsIn x.uses
  vars : SsIn x.vars

/-- A monitor in a box of its own. -/
structure MonAt (B : Nat) (w : World) (x : Mo) (vv qv ev : Value) : Prop where
  c0 : w.cell? ⟨B, 0, none⟩ = some (.string x.name)
  c1 : w.cell? ⟨B, 1, none⟩ = some vv
  c2 : w.cell? ⟨B, 2, none⟩ = some qv
  c3 : w.cell? ⟨B, 3, none⟩ = some ev
  lt : B < w.heap.size
  vars : StrsAt w vv x.vars
  queues : StrsAt w qv x.queues
  ents : EnsAt w ev x.ents
theorem MonAt.made (w : World) (x : Mo) (vv qv ev : Value) (t : TypeId) (h1 : StrsAt w vv x.vars) (h2 : StrsAt w qv x.queues) (h3 : EnsAt w ev x.ents) :
    MonAt w.heap.size (w.alloc (.cells #[.string x.name, vv, qv, ev] t)) x vv qv ev := by
  have hb : Below w.heap.size w (w.alloc (.cells #[.string x.name, vv, qv, ev] t)) := (Below.refl _ _).alloc (Nat.le_refl _) _
  refine ⟨?_, ?_, ?_, ?_, ?_, h1.stays hb, h2.stays hb, h3.stays hb⟩
  · rw [World.cell?_alloc_new]; rfl
  · rw [World.cell?_alloc_new]; rfl
  · rw [World.cell?_alloc_new]; rfl
  · rw [World.cell?_alloc_new]; rfl
  · simp
theorem MonAt.stays {B : Nat} {w w' : World} {x : Mo} {vv qv ev : Value} (h : MonAt B w x vv qv ev) (hb : Below w.heap.size w w') : MonAt B w' x vv qv ev :=
  ⟨(hb.cell (p := ⟨B, 0, none⟩) h.lt).trans h.c0, (hb.cell (p := ⟨B, 1, none⟩) h.lt).trans h.c1, (hb.cell (p := ⟨B, 2, none⟩) h.lt).trans h.c2,
    (hb.cell (p := ⟨B, 3, none⟩) h.lt).trans h.c3, Nat.lt_of_lt_of_le h.lt hb.size, h.vars.stays hb, h.queues.stays hb, h.ents.stays hb⟩
/-- A process in a box of its own. -/
structure ProcAt (B : Nat) (w : World) (x : Pr) (uv vv : Value) : Prop where
  c0 : w.cell? ⟨B, 0, none⟩ = some (.string x.name)
  c1 : w.cell? ⟨B, 1, none⟩ = some uv
  c2 : w.cell? ⟨B, 2, none⟩ = some vv
  c3 : w.cell? ⟨B, 3, none⟩ = some (.int .i64 x.body)
  lt : B < w.heap.size
  uses : StrsAt w uv x.uses
  vars : StrsAt w vv x.vars
theorem ProcAt.made (w : World) (x : Pr) (uv vv : Value) (t : TypeId) (h1 : StrsAt w uv x.uses) (h2 : StrsAt w vv x.vars) :
    ProcAt w.heap.size (w.alloc (.cells #[.string x.name, uv, vv, .int .i64 x.body] t)) x uv vv := by
  have hb : Below w.heap.size w (w.alloc (.cells #[.string x.name, uv, vv, .int .i64 x.body] t)) := (Below.refl _ _).alloc (Nat.le_refl _) _
  refine ⟨?_, ?_, ?_, ?_, ?_, h1.stays hb, h2.stays hb⟩
  · rw [World.cell?_alloc_new]; rfl
  · rw [World.cell?_alloc_new]; rfl
  · rw [World.cell?_alloc_new]; rfl
  · rw [World.cell?_alloc_new]; rfl
  · simp
theorem ProcAt.stays {B : Nat} {w w' : World} {x : Pr} {uv vv : Value} (h : ProcAt B w x uv vv) (hb : Below w.heap.size w w') : ProcAt B w' x uv vv :=
  ⟨(hb.cell (p := ⟨B, 0, none⟩) h.lt).trans h.c0, (hb.cell (p := ⟨B, 1, none⟩) h.lt).trans h.c1, (hb.cell (p := ⟨B, 2, none⟩) h.lt).trans h.c2,
    (hb.cell (p := ⟨B, 3, none⟩) h.lt).trans h.c3, Nat.lt_of_lt_of_le h.lt hb.size, h.uses.stays hb, h.vars.stays hb⟩

def LstR {α : Type} (W : World) (xs : List α) (q : α → Bool) (iv : Value) (wr : World) : Prop :=
  ∃ i : Nat, i ≤ xs.length ∧ iv = .int .i64 i ∧ Hid (Below W.heap.size W wr) ∧ Hid (∀ (j : Nat) (x : α), j < i → xs[j]? = some x → q x = true)
theorem LstR.next {α : Type} {xs : List α} {q : α → Bool} {i : Nat} {x : α} (h : ∀ (j : Nat) (y : α), j < i → xs[j]? = some y → q y = true) (hx : xs[i]? = some x) (hq : q x = true) :
    ∀ (j : Nat) (y : α), j < i + 1 → xs[j]? = some y → q y = true := fun j y hj hy => by
  rcases Nat.lt_succ_iff_lt_or_eq.1 hj with hj | hj
  · exact h j y hj hy
  · subst hj; rw [hx] at hy; cases hy; exact hq
theorem LstR.all {α : Type} {xs : List α} {q : α → Bool} {i : Nat} (h : ∀ (j : Nat) (y : α), j < i → xs[j]? = some y → q y = true) (hi : xs.length ≤ i) : xs.all q = true :=
  List.all_eq_true.2 fun x hx => by
    obtain ⟨j, hj⟩ := List.mem_iff_getElem?.1 hx
    exact h j x (by have := (List.getElem?_eq_some_iff.1 hj).1; omega) hj
theorem all_at_no {α : Type} {xs : List α} {q : α → Bool} {i : Nat} {x : α} (hx : xs[i]? = some x) (hq : q x = false) : xs.all q = false :=
  List.all_eq_false.2 ⟨x, List.mem_iff_getElem?.2 ⟨i, hx⟩, by simp [hq]⟩

set_option maxRecDepth 100000 in
set_option maxHeartbeats 2000000 in
theorem l05Lists_any (nv mv pv : Value) (ms : List Mo) (ps : List Pr) (w : World) (hM : MosAt w mv ms) (hP : PrsAt w pv ps) (hml : ms.length ≤ 1048576) (hpl : ps.length ≤ 1048576) (hmi : ∀ m ∈ ms, MoIn m) (hpi : ∀ p ∈ ps, PrIn p) :
    Calls Tryz.prog 28 #[.agg #[nv, mv, pv]] w fun e w' => e = .returned (.bool (listsB ms ps)) ∧ Below w.heap.size w w' := by
  have hb1 : Below w.heap.size w (w.alloc (.cells #[nv, mv, pv] 34)) := (Below.refl _ _).alloc (Nat.le_refl _) _
  have HM := hide (hM.stays hb1)
  have HP := hide (hP.stays hb1)
  have HX := hide (Boxed.made w nv mv pv 34)
  have HB := hide hb1
  clear hb1
  obtain ⟨ao, c, rfl, _⟩ := hM
  obtain ⟨bo, d, rfl, _⟩ := hP
  go_enter Tryz.func28, Tryz.ntmps28
  go_wp2
  obtain ⟨W1, hW⟩ : ∃ W1, w.alloc (.cells #[nv, .slice ao ms.length c, .slice bo ps.length d] 34) = W1 := ⟨_, rfl⟩
  rw [hW] at HM HP HX HB ⊢
  clear hW
  obtain ⟨n, en⟩ : ∃ n, ms.length = n := ⟨_, rfl⟩
  have EN := hide en
  obtain ⟨q, eq⟩ : ∃ q, ps.length = q := ⟨_, rfl⟩
  have EQ := hide eq
  rw [en] at HM
  rw [eq] at HP
  rw [en, eq] at HX ⊢
  rw [en] at hml
  rw [eq] at hpl
  clear en eq
  go_loopw [3] (LstR W1 ms monB) (fun iv _ => n - (intOf iv).toNat)
  case atStart => exact ⟨0, by omega, rfl, Below.refl _ _, fun j x h => absurd h (Nat.not_lt_zero j)⟩
  case round =>
    obtain ⟨i, hi, rfl, HB2, HA⟩ := hrel
    obtain ⟨c0, c1, c2, _⟩ := HX.out.stays HB2.out
    rw [EN.out] at hi
    by_cases hlt : i < n
    · have hlt' : (i : Int) < (n : Int) := by omega
      have hi0 : (0 : Int) ≤ (i : Int) := by omega
      have hix : i < ms.length := by rw [EN.out]; exact hlt
      have EX : Hid (ms[i]? = some ms[i]) := List.getElem?_eq_getElem hix
      have HI := hide (hmi _ (List.getElem_mem hix))
      obtain ⟨ao', cc, e5, hc⟩ := HM.out.stays HB2.out
      injection e5 with e6 e7 e8
      subst e6
      obtain ⟨a, vv, qv, ev, rfl, hab, hcell⟩ := hc i hix
      obtain ⟨p, hpa⟩ : ∃ p, a.add (i * 4) = p := ⟨_, rfl⟩
      rw [hpa] at hcell
      obtain ⟨x, ex⟩ : ∃ x, ms[i] = x := ⟨_, rfl⟩
      rw [ex] at hcell HI EX
      clear ex hc e7 e8
      have M := hide (MonAt.made _ x vv qv ev 45 hcell.vars hcell.queues hcell.ents)
      obtain ⟨d0, d1, d2, d3, hv1, hv2, hv3⟩ := hcell
      obtain ⟨vo, vc, rfl, _⟩ := hv1
      obtain ⟨qo, qc, rfl, _⟩ := hv2
      obtain ⟨eo, ec, rfl, _⟩ := hv3
      have Z : Hid (Below W1.heap.size W1 (wr.alloc (.cells #[.string x.name, .slice vo x.vars.length vc, .slice qo x.queues.length qc, .slice eo x.ents.length ec] 45))) := HB2.out.alloc HB2.out.size _
      have CN := fun w => hide (specNameOk_any x.name w HI.out.name)
      have CA := fun w h => hide (l05Names_any (.slice vo x.vars.length vc) x.vars 3 w h HI.out.vars.1 HI.out.vars.2)
      have CQ := fun w h => hide (l05Names_any (.slice qo x.queues.length qc) x.queues 2 w h HI.out.queues.1 HI.out.queues.2)
      have hel : x.ents.length ≤ 1048576 := HI.out.len
      cases h1 : nameB x.name with
      | false =>
        have HF : Hid (listsB ms ps = false) := by show _ = _; rw [listsB, all_at_no EX.out (by simp [monB, h1])]; rfl
        rw [h1] at CN
        clear h1
        (go_wp2_with (first
    | (go_at_call 51; refine (unhide (CN _)).mono ?_; rintro e wk ⟨rfl, hbk⟩; have Z := hide (Z.out.trans (hbk.mono Z.out.size)); have M := hide (M.out.stays hbk); obtain ⟨g0, g1, g2, g3, _, _, _, _⟩ := M.out; clear hbk)
    | (go_at_call 52; refine (unhide (CA _ M.out.vars)).mono ?_; rintro e wk ⟨rfl, hbk⟩; have Z := hide (Z.out.trans (hbk.mono Z.out.size)); have M := hide (M.out.stays hbk); obtain ⟨g0, g1, g2, g3, _, _, _, _⟩ := M.out; clear hbk CA)
    | (go_at_call 52; refine (unhide (CQ _ M.out.queues)).mono ?_; rintro e wk ⟨rfl, hbk⟩; have Z := hide (Z.out.trans (hbk.mono Z.out.size)); have M := hide (M.out.stays hbk); obtain ⟨g0, g1, g2, g3, _, _, _, _⟩ := M.out; clear hbk CQ)
    | (go_at_call 30; refine (l01In_gen _ _ _ _).mono ?_; rintro e wv ⟨rfl, rfl⟩)))
        go_ret
        exact ⟨by rw [HF.out]; rfl, HB.out.trans (Z.out.mono HB.out.size)⟩
      | true =>
        rw [h1] at CN
        cases h2 : namesB x.vars 3 with
        | false =>
          have HF : Hid (listsB ms ps = false) := by show _ = _; rw [listsB, all_at_no EX.out (by simp [monB, h2])]; rfl
          rw [h2] at CA
          clear h1 h2
          (go_wp2_with (first
    | (go_at_call 51; refine (unhide (CN _)).mono ?_; rintro e wk ⟨rfl, hbk⟩; have Z := hide (Z.out.trans (hbk.mono Z.out.size)); have M := hide (M.out.stays hbk); obtain ⟨g0, g1, g2, g3, _, _, _, _⟩ := M.out; clear hbk)
    | (go_at_call 52; refine (unhide (CA _ M.out.vars)).mono ?_; rintro e wk ⟨rfl, hbk⟩; have Z := hide (Z.out.trans (hbk.mono Z.out.size)); have M := hide (M.out.stays hbk); obtain ⟨g0, g1, g2, g3, _, _, _, _⟩ := M.out; clear hbk CA)
    | (go_at_call 52; refine (unhide (CQ _ M.out.queues)).mono ?_; rintro e wk ⟨rfl, hbk⟩; have Z := hide (Z.out.trans (hbk.mono Z.out.size)); have M := hide (M.out.stays hbk); obtain ⟨g0, g1, g2, g3, _, _, _, _⟩ := M.out; clear hbk CQ)
    | (go_at_call 30; refine (l01In_gen _ _ _ _).mono ?_; rintro e wv ⟨rfl, rfl⟩)))
          go_ret
          exact ⟨by rw [HF.out]; rfl, HB.out.trans (Z.out.mono HB.out.size)⟩
        | true =>
          rw [h2] at CA
          cases h3 : namesB x.queues 2 with
          | false =>
            have HF : Hid (listsB ms ps = false) := by show _ = _; rw [listsB, all_at_no EX.out (by simp [monB, h3])]; rfl
            rw [h3] at CQ
            clear h1 h2 h3
            (go_wp2_with (first
    | (go_at_call 51; refine (unhide (CN _)).mono ?_; rintro e wk ⟨rfl, hbk⟩; have Z := hide (Z.out.trans (hbk.mono Z.out.size)); have M := hide (M.out.stays hbk); obtain ⟨g0, g1, g2, g3, _, _, _, _⟩ := M.out; clear hbk)
    | (go_at_call 52; refine (unhide (CA _ M.out.vars)).mono ?_; rintro e wk ⟨rfl, hbk⟩; have Z := hide (Z.out.trans (hbk.mono Z.out.size)); have M := hide (M.out.stays hbk); obtain ⟨g0, g1, g2, g3, _, _, _, _⟩ := M.out; clear hbk CA)
    | (go_at_call 52; refine (unhide (CQ _ M.out.queues)).mono ?_; rintro e wk ⟨rfl, hbk⟩; have Z := hide (Z.out.trans (hbk.mono Z.out.size)); have M := hide (M.out.stays hbk); obtain ⟨g0, g1, g2, g3, _, _, _, _⟩ := M.out; clear hbk CQ)
    | (go_at_call 30; refine (l01In_gen _ _ _ _).mono ?_; rintro e wv ⟨rfl, rfl⟩)))
            go_ret
            exact ⟨by rw [HF.out]; rfl, HB.out.trans (Z.out.mono HB.out.size)⟩
          | true =>
            rw [h3] at CQ
            cases h4 : inZ 1 3 x.ents.length with
            | false =>
              have HF : Hid (listsB ms ps = false) := by show _ = _; rw [listsB, all_at_no EX.out (by simp [monB, h4])]; rfl
              clear h1 h2 h3
              (go_wp2_with (first
    | (go_at_call 51; refine (unhide (CN _)).mono ?_; rintro e wk ⟨rfl, hbk⟩; have Z := hide (Z.out.trans (hbk.mono Z.out.size)); have M := hide (M.out.stays hbk); obtain ⟨g0, g1, g2, g3, _, _, _, _⟩ := M.out; clear hbk)
    | (go_at_call 52; refine (unhide (CA _ M.out.vars)).mono ?_; rintro e wk ⟨rfl, hbk⟩; have Z := hide (Z.out.trans (hbk.mono Z.out.size)); have M := hide (M.out.stays hbk); obtain ⟨g0, g1, g2, g3, _, _, _, _⟩ := M.out; clear hbk CA)
    | (go_at_call 52; refine (unhide (CQ _ M.out.queues)).mono ?_; rintro e wk ⟨rfl, hbk⟩; have Z := hide (Z.out.trans (hbk.mono Z.out.size)); have M := hide (M.out.stays hbk); obtain ⟨g0, g1, g2, g3, _, _, _, _⟩ := M.out; clear hbk CQ)
    | (go_at_call 30; refine (l01In_gen _ _ _ _).mono ?_; rintro e wv ⟨rfl, rfl⟩)))
              go_ret
              exact ⟨by rw [HF.out]; rfl, HB.out.trans (Z.out.mono HB.out.size)⟩
            | true =>
              have HM2 : Hid (∀ b, x.ents.all entB = b → monB x = b) := fun b hb => by rw [monB, h1, h2, h3, h4, hb]; cases b <;> rfl
              clear h1 h2 h3
              (go_wp2_with (first
    | (go_at_call 51; refine (unhide (CN _)).mono ?_; rintro e wk ⟨rfl, hbk⟩; have Z := hide (Z.out.trans (hbk.mono Z.out.size)); have M := hide (M.out.stays hbk); obtain ⟨g0, g1, g2, g3, _, _, _, _⟩ := M.out; clear hbk)
    | (go_at_call 52; refine (unhide (CA _ M.out.vars)).mono ?_; rintro e wk ⟨rfl, hbk⟩; have Z := hide (Z.out.trans (hbk.mono Z.out.size)); have M := hide (M.out.stays hbk); obtain ⟨g0, g1, g2, g3, _, _, _, _⟩ := M.out; clear hbk CA)
    | (go_at_call 52; refine (unhide (CQ _ M.out.queues)).mono ?_; rintro e wk ⟨rfl, hbk⟩; have Z := hide (Z.out.trans (hbk.mono Z.out.size)); have M := hide (M.out.stays hbk); obtain ⟨g0, g1, g2, g3, _, _, _, _⟩ := M.out; clear hbk CQ)
    | (go_at_call 30; refine (l01In_gen _ _ _ _).mono ?_; rintro e wv ⟨rfl, rfl⟩)))
              clear CN d0 d1 d2 d3 h4 c0 c1 c2 hab
              obtain ⟨m, em⟩ : ∃ m, x.ents.length = m := ⟨_, rfl⟩
              have EM := hide em
              rw [em] at hel M
              have Z0 := Z
              have M0 := M
              clear em
              repeat clear Z
              repeat clear M
              repeat clear g0
              repeat clear g1
              repeat clear g2
              repeat clear g3
              go_loopw [5] (LstR wv x.ents entB) (fun iv _ => m - (intOf iv).toNat)
              case atStart => exact ⟨0, by omega, rfl, Below.refl _ _, fun j x h => absurd h (Nat.not_lt_zero j)⟩
              case round =>
                obtain ⟨j, hj, rfl, HB4, HA4⟩ := hrel
                rw [EM.out] at hj
                have Z := hide (Z0.out.trans (HB4.out.mono Z0.out.size))
                have M := hide (M0.out.stays HB4.out)
                obtain ⟨g0, g1, g2, g3, _, _, _, hev⟩ := M.out
                by_cases hlt2 : j < m
                · have hlt2' : (j : Int) < (m : Int) := by omega
                  have hj0 : (0 : Int) ≤ (j : Int) := by omega
                  have hjx : j < x.ents.length := by rw [EM.out]; exact hlt2
                  obtain ⟨eo', ec', e5, hc⟩ := hev
                  injection e5 with e6 e7 e8
                  subst e6
                  obtain ⟨b, rfl, hbb, hy⟩ := hc j hjx
                  obtain ⟨r, hra⟩ : ∃ r, b.add (j * 3) = r := ⟨_, rfl⟩
                  have YB : Hid (r.block < wr.heap.size) := by rw [← hra, block_add]; exact hbb
                  rw [hra] at hy
                  have EY : Hid (x.ents[j]? = some x.ents[j]) := List.getElem?_eq_getElem hjx
                  have HEI := hide (HI.out.ents _ (List.getElem_mem hjx))
                  obtain ⟨y, ey⟩ : ∃ y, x.ents[j] = y := ⟨_, rfl⟩
                  rw [ey] at hy EY HEI
                  have Y := hide hy
                  clear ey hc e7 e8 hbb
                  obtain ⟨y0, y1, y2⟩ := hy
                  have ZZ := hide HB4.out
                  have CE1 := fun w => hide (specNameOk_any y.name w HEI.out.1)
                  have CE2 := fun w => hide (specNameOk_any y.param w HEI.out.2)
                  cases k1 : nameB y.name with
                  | false =>
                    have HF : Hid (listsB ms ps = false) := by show _ = _; rw [listsB, all_at_no EX.out (HM2.out _ (all_at_no EY.out (by simp [entB, k1])))]; rfl
                    rw [k1] at CE1
                    clear k1 CE2
                    go_wp2_with (go_at_call 51; refine (unhide (CE1 _)).mono ?_; rintro e wk ⟨rfl, hbk⟩; have Z := hide (Z.out.trans (hbk.mono Z.out.size)))
                    go_ret
                    exact ⟨by rw [HF.out]; rfl, HB.out.trans (Z.out.mono HB.out.size)⟩
                  | true =>
                    rw [k1] at CE1
                    cases k2 : nameB y.param with
                    | false =>
                      have HF : Hid (listsB ms ps = false) := by show _ = _; rw [listsB, all_at_no EX.out (HM2.out _ (all_at_no EY.out (by simp [entB, k2])))]; rfl
                      rw [k2] at CE2
                      clear k1 k2
                      (go_wp2_with (first
    | (go_at_call 51; refine (unhide (CE1 _)).mono ?_; rintro e wk ⟨rfl, hbk⟩; have Z := hide (Z.out.trans (hbk.mono Z.out.size)); have ZZ := hide (ZZ.out.trans (hbk.mono ZZ.out.size)); have M := hide (M.out.stays hbk); obtain ⟨g0, g1, g2, g3, _, _, _, _⟩ := M.out; have Y := hide (Y.out.stays hbk YB.out); have YB := hide (Nat.lt_of_lt_of_le YB.out hbk.size); obtain ⟨y0, y1, y2⟩ := Y.out; clear hbk CE1)
    | (go_at_call 51; refine (unhide (CE2 _)).mono ?_; rintro e wk ⟨rfl, hbk⟩; have Z := hide (Z.out.trans (hbk.mono Z.out.size)); have ZZ := hide (ZZ.out.trans (hbk.mono ZZ.out.size)); have M := hide (M.out.stays hbk); obtain ⟨g0, g1, g2, g3, _, _, _, _⟩ := M.out; have Y := hide (Y.out.stays hbk YB.out); have YB := hide (Nat.lt_of_lt_of_le YB.out hbk.size); obtain ⟨y0, y1, y2⟩ := Y.out; clear hbk CE2)))
                      go_ret
                      exact ⟨by rw [HF.out]; rfl, HB.out.trans (Z.out.mono HB.out.size)⟩
                    | true =>
                      have HT : Hid (entB y = true) := by show _ = _; rw [entB, k1, k2]; rfl
                      rw [k2] at CE2
                      clear k1 k2
                      (go_wp2_with (first
    | (go_at_call 51; refine (unhide (CE1 _)).mono ?_; rintro e wk ⟨rfl, hbk⟩; have Z := hide (Z.out.trans (hbk.mono Z.out.size)); have ZZ := hide (ZZ.out.trans (hbk.mono ZZ.out.size)); have M := hide (M.out.stays hbk); obtain ⟨g0, g1, g2, g3, _, _, _, _⟩ := M.out; have Y := hide (Y.out.stays hbk YB.out); have YB := hide (Nat.lt_of_lt_of_le YB.out hbk.size); obtain ⟨y0, y1, y2⟩ := Y.out; clear hbk CE1)
    | (go_at_call 51; refine (unhide (CE2 _)).mono ?_; rintro e wk ⟨rfl, hbk⟩; have Z := hide (Z.out.trans (hbk.mono Z.out.size)); have ZZ := hide (ZZ.out.trans (hbk.mono ZZ.out.size)); have M := hide (M.out.stays hbk); obtain ⟨g0, g1, g2, g3, _, _, _, _⟩ := M.out; have Y := hide (Y.out.stays hbk YB.out); have YB := hide (Nat.lt_of_lt_of_le YB.out hbk.size); obtain ⟨y0, y1, y2⟩ := Y.out; clear hbk CE2)))
                      go_roundw
                      case rel => exact ⟨j + 1, by rw [EM.out]; omega, by go_num, ZZ.out, LstR.next HA4.out EY.out HT.out⟩
                      case measure => simp [intOf]; omega
                · have hlt2' : ¬ (j : Int) < (m : Int) := by omega
                  have HT : Hid (monB x = true) := HM2.out _ (LstR.all HA4.out (by rw [EM.out]; omega))
                  clear hev
                  go_wp2
                  go_roundw
                  case rel => exact ⟨i + 1, by rw [EN.out]; omega, by go_num, Z.out, LstR.next HA.out EX.out HT.out⟩
                  case measure => simp [intOf]; omega
    · have hlt' : ¬ (i : Int) < (n : Int) := by omega
      have HT : Hid (ms.all monB = true) := LstR.all HA.out (by rw [EN.out]; omega)
      go_wp2
      go_loopw [6] (LstR W1 ps procB) (fun iv _ => q - (intOf iv).toNat)
      case atStart => exact ⟨0, by omega, rfl, HB2.out, fun j x h => absurd h (Nat.not_lt_zero j)⟩
      case round =>
        clear c0 c1 c2
        obtain ⟨k, hk, rfl, HB3, HA3⟩ := hrel
        obtain ⟨c0, c1, c2, _⟩ := HX.out.stays HB3.out
        rw [EQ.out] at hk
        by_cases hlt3 : k < q
        · have hlt3' : (k : Int) < (q : Int) := by omega
          have hk0 : (0 : Int) ≤ (k : Int) := by omega
          have hkx : k < ps.length := by rw [EQ.out]; exact hlt3
          have EX : Hid (ps[k]? = some ps[k]) := List.getElem?_eq_getElem hkx
          have HI := hide (hpi _ (List.getElem_mem hkx))
          obtain ⟨bo', cc, e5, hc⟩ := HP.out.stays HB3.out
          injection e5 with e6 e7 e8
          subst e6
          obtain ⟨a, uv, vv, rfl, hab, hcell⟩ := hc k hkx
          obtain ⟨p, hpa⟩ : ∃ p, a.add (k * 4) = p := ⟨_, rfl⟩
          rw [hpa] at hcell
          obtain ⟨x, ex⟩ : ∃ x, ps[k] = x := ⟨_, rfl⟩
          rw [ex] at hcell HI EX
          clear ex hc e7 e8
          have M := hide (ProcAt.made _ x uv vv 51 hcell.uses hcell.vars)
          obtain ⟨d0, d1, d2, d3, hv1, hv2⟩ := hcell
          obtain ⟨uo, uc, rfl, _⟩ := hv1
          obtain ⟨vo, vc, rfl, _⟩ := hv2
          have Z : Hid (Below W1.heap.size W1 (wr.alloc (.cells #[.string x.name, .slice uo x.uses.length uc, .slice vo x.vars.length vc, .int .i64 x.body] 51))) := HB3.out.alloc HB3.out.size _
          have CN := fun w => hide (specNameOk_any x.name w HI.out.name)
          have CA := fun w h => hide (l05Names_any (.slice uo x.uses.length uc) x.uses 3 w h HI.out.uses.1 HI.out.uses.2)
          have CQ := fun w h => hide (l05Names_any (.slice vo x.vars.length vc) x.vars 3 w h HI.out.vars.1 HI.out.vars.2)
          cases h1 : nameB x.name with
          | false =>
            have HF : Hid (listsB ms ps = false) := by show _ = _; rw [listsB, HT.out, all_at_no EX.out (by simp [procB, h1])]; rfl
            rw [h1] at CN
            clear h1
            (go_wp2_with (first
    | (go_at_call 51; refine (unhide (CN _)).mono ?_; rintro e wk ⟨rfl, hbk⟩; have Z := hide (Z.out.trans (hbk.mono Z.out.size)); have M := hide (M.out.stays hbk); obtain ⟨g0, g1, g2, g3, _, _, _⟩ := M.out; clear hbk)
    | (go_at_call 52; refine (unhide (CA _ M.out.uses)).mono ?_; rintro e wk ⟨rfl, hbk⟩; have Z := hide (Z.out.trans (hbk.mono Z.out.size)); have M := hide (M.out.stays hbk); obtain ⟨g0, g1, g2, g3, _, _, _⟩ := M.out; clear hbk CA)
    | (go_at_call 52; refine (unhide (CQ _ M.out.vars)).mono ?_; rintro e wk ⟨rfl, hbk⟩; have Z := hide (Z.out.trans (hbk.mono Z.out.size)); have M := hide (M.out.stays hbk); obtain ⟨g0, g1, g2, g3, _, _, _⟩ := M.out; clear hbk CQ)
    | (go_at_call 30; refine (l01In_gen _ _ _ _).mono ?_; rintro e wv ⟨rfl, rfl⟩)))
            go_ret
            exact ⟨by rw [HF.out]; rfl, HB.out.trans (Z.out.mono HB.out.size)⟩
          | true =>
            rw [h1] at CN
            cases h2 : namesB x.uses 3 with
            | false =>
              have HF : Hid (listsB ms ps = false) := by show _ = _; rw [listsB, HT.out, all_at_no EX.out (by simp [procB, h2])]; rfl
              rw [h2] at CA
              clear h1 h2
              (go_wp2_with (first
    | (go_at_call 51; refine (unhide (CN _)).mono ?_; rintro e wk ⟨rfl, hbk⟩; have Z := hide (Z.out.trans (hbk.mono Z.out.size)); have M := hide (M.out.stays hbk); obtain ⟨g0, g1, g2, g3, _, _, _⟩ := M.out; clear hbk)
    | (go_at_call 52; refine (unhide (CA _ M.out.uses)).mono ?_; rintro e wk ⟨rfl, hbk⟩; have Z := hide (Z.out.trans (hbk.mono Z.out.size)); have M := hide (M.out.stays hbk); obtain ⟨g0, g1, g2, g3, _, _, _⟩ := M.out; clear hbk CA)
    | (go_at_call 52; refine (unhide (CQ _ M.out.vars)).mono ?_; rintro e wk ⟨rfl, hbk⟩; have Z := hide (Z.out.trans (hbk.mono Z.out.size)); have M := hide (M.out.stays hbk); obtain ⟨g0, g1, g2, g3, _, _, _⟩ := M.out; clear hbk CQ)
    | (go_at_call 30; refine (l01In_gen _ _ _ _).mono ?_; rintro e wv ⟨rfl, rfl⟩)))
              go_ret
              exact ⟨by rw [HF.out]; rfl, HB.out.trans (Z.out.mono HB.out.size)⟩
            | true =>
              rw [h2] at CA
              cases h3 : namesB x.vars 3 with
              | false =>
                have HF : Hid (listsB ms ps = false) := by show _ = _; rw [listsB, HT.out, all_at_no EX.out (by simp [procB, h3])]; rfl
                rw [h3] at CQ
                clear h1 h2 h3
                (go_wp2_with (first
    | (go_at_call 51; refine (unhide (CN _)).mono ?_; rintro e wk ⟨rfl, hbk⟩; have Z := hide (Z.out.trans (hbk.mono Z.out.size)); have M := hide (M.out.stays hbk); obtain ⟨g0, g1, g2, g3, _, _, _⟩ := M.out; clear hbk)
    | (go_at_call 52; refine (unhide (CA _ M.out.uses)).mono ?_; rintro e wk ⟨rfl, hbk⟩; have Z := hide (Z.out.trans (hbk.mono Z.out.size)); have M := hide (M.out.stays hbk); obtain ⟨g0, g1, g2, g3, _, _, _⟩ := M.out; clear hbk CA)
    | (go_at_call 52; refine (unhide (CQ _ M.out.vars)).mono ?_; rintro e wk ⟨rfl, hbk⟩; have Z := hide (Z.out.trans (hbk.mono Z.out.size)); have M := hide (M.out.stays hbk); obtain ⟨g0, g1, g2, g3, _, _, _⟩ := M.out; clear hbk CQ)
    | (go_at_call 30; refine (l01In_gen _ _ _ _).mono ?_; rintro e wv ⟨rfl, rfl⟩)))
                go_ret
                exact ⟨by rw [HF.out]; rfl, HB.out.trans (Z.out.mono HB.out.size)⟩
              | true =>
                have HT2 : Hid (procB x = true) := by show _ = _; rw [procB, h1, h2, h3]; rfl
                rw [h3] at CQ
                clear h1 h2 h3
                (go_wp2_with (first
    | (go_at_call 51; refine (unhide (CN _)).mono ?_; rintro e wk ⟨rfl, hbk⟩; have Z := hide (Z.out.trans (hbk.mono Z.out.size)); have M := hide (M.out.stays hbk); obtain ⟨g0, g1, g2, g3, _, _, _⟩ := M.out; clear hbk)
    | (go_at_call 52; refine (unhide (CA _ M.out.uses)).mono ?_; rintro e wk ⟨rfl, hbk⟩; have Z := hide (Z.out.trans (hbk.mono Z.out.size)); have M := hide (M.out.stays hbk); obtain ⟨g0, g1, g2, g3, _, _, _⟩ := M.out; clear hbk CA)
    | (go_at_call 52; refine (unhide (CQ _ M.out.vars)).mono ?_; rintro e wk ⟨rfl, hbk⟩; have Z := hide (Z.out.trans (hbk.mono Z.out.size)); have M := hide (M.out.stays hbk); obtain ⟨g0, g1, g2, g3, _, _, _⟩ := M.out; clear hbk CQ)
    | (go_at_call 30; refine (l01In_gen _ _ _ _).mono ?_; rintro e wv ⟨rfl, rfl⟩)))
                go_roundw
                case rel => exact ⟨k + 1, by rw [EQ.out]; omega, by go_num, Z.out, LstR.next HA3.out EX.out HT2.out⟩
                case measure => simp [intOf]; omega
        · have hlt3' : ¬ (k : Int) < (q : Int) := by omega
          have HF : Hid (listsB ms ps = (decide ((n : Int) ≤ 3) && inZ 1 4 q)) := by
            show _ = _
            rw [listsB, HT.out, LstR.all HA3.out (by rw [EQ.out]; omega), EN.out, EQ.out]
            rfl
          have Z := HB3
          by_cases h3 : n ≤ 3
          · have h3' : (n : Int) ≤ 3 := by omega
            have HF : Hid (listsB ms ps = inZ 1 4 q) := by show _ = _; rw [HF.out]; simp [h3']
            (go_wp2_with (first
    | (go_at_call 51; refine (unhide (CN _)).mono ?_; rintro e wk ⟨rfl, hbk⟩; have Z := hide (Z.out.trans (hbk.mono Z.out.size)); have M := hide (M.out.stays hbk); obtain ⟨g0, g1, g2, g3, _, _, _⟩ := M.out; clear hbk)
    | (go_at_call 52; refine (unhide (CA _ M.out.uses)).mono ?_; rintro e wk ⟨rfl, hbk⟩; have Z := hide (Z.out.trans (hbk.mono Z.out.size)); have M := hide (M.out.stays hbk); obtain ⟨g0, g1, g2, g3, _, _, _⟩ := M.out; clear hbk CA)
    | (go_at_call 52; refine (unhide (CQ _ M.out.vars)).mono ?_; rintro e wk ⟨rfl, hbk⟩; have Z := hide (Z.out.trans (hbk.mono Z.out.size)); have M := hide (M.out.stays hbk); obtain ⟨g0, g1, g2, g3, _, _, _⟩ := M.out; clear hbk CQ)
    | (go_at_call 30; refine (l01In_gen _ _ _ _).mono ?_; rintro e wv ⟨rfl, rfl⟩)))
            go_ret
            exact ⟨by rw [HF.out]; rfl, HB.out.trans (Z.out.mono HB.out.size)⟩
          · have h3' : ¬ (n : Int) ≤ 3 := by omega
            have HF : Hid (listsB ms ps = false) := by show _ = _; rw [HF.out]; simp [h3']
            (go_wp2_with (first
    | (go_at_call 51; refine (unhide (CN _)).mono ?_; rintro e wk ⟨rfl, hbk⟩; have Z := hide (Z.out.trans (hbk.mono Z.out.size)); have M := hide (M.out.stays hbk); obtain ⟨g0, g1, g2, g3, _, _, _⟩ := M.out; clear hbk)
    | (go_at_call 52; refine (unhide (CA _ M.out.uses)).mono ?_; rintro e wk ⟨rfl, hbk⟩; have Z := hide (Z.out.trans (hbk.mono Z.out.size)); have M := hide (M.out.stays hbk); obtain ⟨g0, g1, g2, g3, _, _, _⟩ := M.out; clear hbk CA)
    | (go_at_call 52; refine (unhide (CQ _ M.out.vars)).mono ?_; rintro e wk ⟨rfl, hbk⟩; have Z := hide (Z.out.trans (hbk.mono Z.out.size)); have M := hide (M.out.stays hbk); obtain ⟨g0, g1, g2, g3, _, _, _⟩ := M.out; clear hbk CQ)
    | (go_at_call 30; refine (l01In_gen _ _ _ _).mono ?_; rintro e wv ⟨rfl, rfl⟩)))
            go_ret
            exact ⟨by rw [HF.out]; rfl, HB.out.trans (Z.out.mono HB.out.size)⟩
end Go.Proofs.YtdfahpachbhglaaGreatDoor
