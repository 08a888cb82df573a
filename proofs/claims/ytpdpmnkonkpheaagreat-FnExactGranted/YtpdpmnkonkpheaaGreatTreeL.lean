/-
  Walks: lists of names, bodies, by the specification.
-/
import Derived.Test.YtpdpmnkonkpheaaGreatAid
import Derived.Test.YtpdpmnkonkpheaaGreatRowQ
import Derived.Test.YtpdpmnkonkpheaaGreatKeyW
import Derived.Test.YtpdpmnkonkpheaaGreatLawI
import Derived.Test.YtpdpmnkonkpheaaGreatLawE
import Derived.Test.YtpdpmnkonkpheaaGreatImpN
namespace Go.Proofs.YtpdpmnkonkpheaaGreat
open Go.RowKit

def namesB (xs : List ByteArray) (most : Int) : Bool := xs.all nameB && decide ((xs.length : Int) ≤ most)
def NamesR (W : World) (xs : List ByteArray) (iv : Value) (wr : World) : Prop :=
  ∃ i : Nat, i ≤ xs.length ∧ iv = .int .i64 i ∧ Hid (Below W.heap.size W wr) ∧ Hid (∀ j x, j < i → xs[j]? = some x → nameB x = true)

set_option maxHeartbeats 1000000 in
theorem l05Names_any (v : Value) (xs : List ByteArray) (most : Int) (w : World) (hX : StrsAt w v xs) (hl : xs.length ≤ 1048576) (hs : ∀ x ∈ xs, x.size ≤ 1048576) :
    Calls Tryz.prog 83 #[v, .int .i64 most] w fun e w' => e = .returned (.bool (namesB xs most)) ∧ Below w.heap.size w w' := by
  have HX := hide hX
  obtain ⟨ao, c, rfl, _⟩ := hX
  obtain ⟨n, en⟩ : ∃ n, xs.length = n := ⟨_, rfl⟩
  have EN := hide en
  rw [en] at HX hl ⊢
  go_enter Tryz.func83, Tryz.ntmps83
  go_wp2
  go_loopw [5] (NamesR w xs) (fun iv _ => n - (intOf iv).toNat)
  case atStart => exact ⟨0, by omega, rfl, Below.refl _ _, fun j x hj => absurd hj (Nat.not_lt_zero j)⟩
  case round =>
    obtain ⟨i, hi, rfl, HB2, HA⟩ := hrel
    rw [en] at hi
    by_cases hlt : i < n
    · have hlt' : (i : Int) < (n : Int) := by omega
      have hi0 : (0 : Int) ≤ (i : Int) := by omega
      obtain ⟨ao', c', e5, hc⟩ := HX.out.stays HB2.out
      injection e5 with e6 e7 e8
      subst e6
      have hix : i < xs.length := by omega
      obtain ⟨a, rfl, _, hx⟩ := hc i hix
      have C := fun w => hide (specNameOk_any xs[i] w (hs _ (List.getElem_mem hix)))
      have EX : Hid (xs[i]? = some xs[i]) := List.getElem?_eq_getElem hix
      obtain ⟨x, ex⟩ : ∃ x, xs[i] = x := ⟨_, rfl⟩
      rw [ex] at hx EX
      simp only [ex] at C
      clear ex hc e7 e8 en
      cases hv : nameB x with
      | true =>
        rw [hv] at C
        go_wp2_with (go_at_call 82; refine (unhide (C _)).mono ?_; rintro e w2 ⟨rfl, hb2⟩; have HB3 := hide hb2; clear hb2)
        go_roundw
        case rel => exact ⟨i + 1, by rw [EN.out]; omega, by go_num, HB2.out.trans (HB3.out.mono HB2.out.size), fun j y hj hy => by
          rcases Nat.lt_succ_iff_lt_or_eq.1 hj with hj | hj
          · exact HA.out j y hj hy
          · subst hj; rw [EX.out] at hy; cases hy; exact hv⟩
        case measure => simp [intOf]; omega
      | false =>
        rw [hv] at C
        go_wp2_with (go_at_call 82; refine (unhide (C _)).mono ?_; rintro e w2 ⟨rfl, hb2⟩; have HB3 := hide hb2; clear hb2)
        go_ret
        exact ⟨by rw [namesB, List.all_eq_false.2 ⟨x, List.mem_iff_getElem?.2 ⟨i, EX.out⟩, by simp [hv]⟩]; rfl, HB2.out.trans (HB3.out.mono HB2.out.size)⟩
    · have hlt' : ¬ (i : Int) < (n : Int) := by omega
      have HF : Hid (namesB xs most = decide ((n : Int) ≤ most)) := by
        show _ = _
        rw [namesB, EN.out, List.all_eq_true.2 (fun x hx => by
          obtain ⟨j, hj⟩ := List.mem_iff_getElem?.1 hx
          exact HA.out j x (by have := (List.getElem?_eq_some_iff.1 hj).1; omega) hj)]
        rfl
      clear en
      go_wp2
      go_ret
      exact ⟨by rw [HF.out]; rfl, HB2.out⟩
end Go.Proofs.YtpdpmnkonkpheaaGreat

namespace Go.Proofs.YtpdpmnkonkpheaaGreat
open Go.RowKit

def entB (x : En) : Bool := nameB x.name && nameB x.param
def monB (x : Mo) : Bool := nameB x.name && namesB x.vars 3 && namesB x.queues 2 && inZ 1 3 x.ents.length && x.ents.all entB
def procB (x : Pr) : Bool := nameB x.name && namesB x.uses 3 && namesB x.vars 3
def listsB (ms : List Mo) (ps : List Pr) : Bool := ms.all monB && ps.all procB && (decide ((ms.length : Int) ≤ 3) && inZ 1 4 ps.length)

def SsIn (xs : List ByteArray) : Prop := xs.length ≤ 1048576 ∧ ∀ x ∈ xs, x.size ≤ 1048576
structure MoIn (x : Mo) : Prop where
  name : x.name.size ≤ 1048576
  vars : SsIn x.vars
  queues : SsIn x.queues
  len : x.ents.length ≤ 1048576
  ents : ∀ e ∈ x.ents, e.name.size ≤ 1048576 ∧ e.param.size ≤ 1048576
structure PrIn (x : Pr) : Prop where
  name : x.name.size ≤ 1048576
  uses : SsIn x.uses
  vars : SsIn x.vars

/-- A monitor in a box of its own. -/
structure MonAt (B : Nat) (w : World) (x : Mo) (vv qv ev : Value) : Prop where
  c0 : w.cell? ⟨B, 0, none⟩ = some (.string x.name)
  c1 : w.cell? ⟨B, 1, none⟩ = some vv
  c2 : w.cell? ⟨B, 2, none⟩ = some qv
  c3 : w.cell? ⟨B, 3, none⟩ = some ev
  lt : B < w.heap.size
  vars : StrsAt w vv x.vars
  queues : StrsAt w qv x.queues
  ents : EnsAt w ev x.ents
theorem MonAt.made (w : World) (x : Mo) (vv qv ev : Value) (t : TypeId) (h1 : StrsAt w vv x.vars) (h2 : StrsAt w qv x.queues) (h3 : EnsAt w ev x.ents) :
    MonAt w.heap.size (w.alloc (.cells #[.string x.name, vv, qv, ev] t)) x vv qv ev := by
  have hb : Below w.heap.size w (w.alloc (.cells #[.string x.name, vv, qv, ev] t)) := (Below.refl _ _).alloc (Nat.le_refl _) _
  refine ⟨?_, ?_, ?_, ?_, ?_, h1.stays hb, h2.stays hb, h3.stays hb⟩
  · rw [World.cell?_alloc_new]; rfl
  · rw [World.cell?_alloc_new]; rfl
  · rw [World.cell?_alloc_new]; rfl
  · rw [World.cell?_alloc_new]; rfl
  · simp
theorem MonAt.stays {B : Nat} {w w' : World} {x : Mo} {vv qv ev : Value} (h : MonAt B w x vv qv ev) (hb : Below w.heap.size w w') : MonAt B w' x vv qv ev :=
  ⟨(hb.cell (p := ⟨B, 0, none⟩) h.lt).trans h.c0, (hb.cell (p := ⟨B, 1, none⟩) h.lt).trans h.c1, (hb.cell (p := ⟨B, 2, none⟩) h.lt).trans h.c2,
    (hb.cell (p := ⟨B, 3, none⟩) h.lt).trans h.c3, Nat.lt_of_lt_of_le h.lt hb.size, h.vars.stays hb, h.queues.stays hb, h.ents.stays hb⟩
/-- A process in a box of its own. -/
structure ProcAt (B : Nat) (w : World) (x : Pr) (uv vv : Value) : Prop where
  c0 : w.cell? ⟨B, 0, none⟩ = some (.string x.name)
  c1 : w.cell? ⟨B, 1, none⟩ = some uv
  c2 : w.cell? ⟨B, 2, none⟩ = some vv
  c3 : w.cell? ⟨B, 3, none⟩ = some (.int .i64 x.body)
  lt : B < w.heap.size
  uses : StrsAt w uv x.uses
  vars : StrsAt w vv x.vars
theorem ProcAt.made (w : World) (x : Pr) (uv vv : Value) (t : TypeId) (h1 : StrsAt w uv x.uses) (h2 : StrsAt w vv x.vars) :
    ProcAt w.heap.size (w.alloc (.cells #[.string x.name, uv, vv, .int .i64 x.body] t)) x uv vv := by
  have hb : Below w.heap.size w (w.alloc (.cells #[.string x.name, uv, vv, .int .i64 x.body] t)) := (Below.refl _ _).alloc (Nat.le_refl _) _
  refine ⟨?_, ?_, ?_, ?_, ?_, h1.stays hb, h2.stays hb⟩
  · rw [World.cell?_alloc_new]; rfl
  · rw [World.cell?_alloc_new]; rfl
  · rw [World.cell?_alloc_new]; rfl
  · rw [World.cell?_alloc_new]; rfl
  · simp
theorem ProcAt.stays {B : Nat} {w w' : World} {x : Pr} {uv vv : Value} (h : ProcAt B w x uv vv) (hb : Below w.heap.size w w') : ProcAt B w' x uv vv :=
  ⟨(hb.cell (p := ⟨B, 0, none⟩) h.lt).trans h.c0, (hb.cell (p := ⟨B, 1, none⟩) h.lt).trans h.c1, (hb.cell (p := ⟨B, 2, none⟩) h.lt).trans h.c2,
    (hb.cell (p := ⟨B, 3, none⟩) h.lt).trans h.c3, Nat.lt_of_lt_of_le h.lt hb.size, h.uses.stays hb, h.vars.stays hb⟩

def LstR {α : Type} (W : World) (xs : List α) (q : α → Bool) (iv : Value) (wr : World) : Prop :=
  ∃ i : Nat, i ≤ xs.length ∧ iv = .int .i64 i ∧ Hid (Below W.heap.size W wr) ∧ Hid (∀ (j : Nat) (x : α), j < i → xs[j]? = some x → q x = true)
theorem LstR.next {α : Type} {xs : List α} {q : α → Bool} {i : Nat} {x : α} (h : ∀ (j : Nat) (y : α), j < i → xs[j]? = some y → q y = true) (hx : xs[i]? = some x) (hq : q x = true) :
    ∀ (j : Nat) (y : α), j < i + 1 → xs[j]? = some y → q y = true := fun j y hj hy => by
  rcases Nat.lt_succ_iff_lt_or_eq.1 hj with hj | hj
  · exact h j y hj hy
  · subst hj; rw [hx] at hy; cases hy; exact hq
theorem LstR.all {α : Type} {xs : List α} {q : α → Bool} {i : Nat} (h : ∀ (j : Nat) (y : α), j < i → xs[j]? = some y → q y = true) (hi : xs.length ≤ i) : xs.all q = true :=
  List.all_eq_true.2 fun x hx => by
    obtain ⟨j, hj⟩ := List.mem_iff_getElem?.1 hx
    exact h j x (by have := (List.getElem?_eq_some_iff.1 hj).1; omega) hj
theorem all_at_no {α : Type} {xs : List α} {q : α → Bool} {i : Nat} {x : α} (hx : xs[i]? = some x) (hq : q x = false) : xs.all q = false :=
  List.all_eq_false.2 ⟨x, List.mem_iff_getElem?.2 ⟨i, hx⟩, by simp [hq]⟩

set_option maxRecDepth 100000 in
set_option maxHeartbeats 2000000 in
theorem l05Lists_any (nv mv pv : Value) (ms : List Mo) (ps : List Pr) (w : World) (hM : MosAt w mv ms) (hP : PrsAt w pv ps) (hml : ms.length ≤ 1048576) (hpl : ps.length ≤ 1048576) (hmi : ∀ m ∈ ms, MoIn m) (hpi : ∀ p ∈ ps, PrIn p) :
    Calls Tryz.prog 51 #[.agg #[nv, mv, pv]] w fun e w' => e = .returned (.bool (listsB ms ps)) ∧ Below w.heap.size w w' := by
  have hb1 : Below w.heap.size w (w.alloc (.cells #[nv, mv, pv] 33)) := (Below.refl _ _).alloc (Nat.le_refl _) _
  have HM := hide (hM.stays hb1)
  have HP := hide (hP.stays hb1)
  have HX := hide (Boxed.made w nv mv pv 33)
  have HB := hide hb1
  clear hb1
  obtain ⟨ao, c, rfl, _⟩ := hM
  obtain ⟨bo, d, rfl, _⟩ := hP
  go_enter Tryz.func51, Tryz.ntmps51
  go_wp2
  obtain ⟨W1, hW⟩ : ∃ W1, w.alloc (.cells #[nv, .slice ao ms.length c, .slice bo ps.length d] 33) = W1 := ⟨_, rfl⟩
  rw [hW] at HM HP HX HB ⊢
  clear hW
  obtain ⟨n, en⟩ : ∃ n, ms.length = n := ⟨_, rfl⟩
  have EN := hide en
  obtain ⟨q, eq⟩ : ∃ q, ps.length = q := ⟨_, rfl⟩
  have EQ := hide eq
  rw [en] at HM
  rw [eq] at HP
  rw [en, eq] at HX ⊢
  rw [en] at hml
  rw [eq] at hpl
  clear en eq
  go_loopw [3] (LstR W1 ms monB) (fun iv _ => n - (intOf iv).toNat)
  case atStart => exact ⟨0, by omega, rfl, Below.refl _ _, fun j x h => absurd h (Nat.not_lt_zero j)⟩
  case round =>
    obtain ⟨i, hi, rfl, HB2, HA⟩ := hrel
    obtain ⟨c0, c1, c2, _⟩ := HX.out.stays HB2.out
    rw [EN.out] at hi
    by_cases hlt : i < n
    · have hlt' : (i : Int) < (n : Int) := by omega
      have hi0 : (0 : Int) ≤ (i : Int) := by omega
      have hix : i < ms.length := by rw [EN.out]; exact hlt
      have EX : Hid (ms[i]? = some ms[i]) := List.getElem?_eq_getElem hix
      have HI := hide (hmi _ (List.getElem_mem hix))
      obtain ⟨ao', cc, e5, hc⟩ := HM.out.stays HB2.out
      injection e5 with e6 e7 e8
      subst e6
      obtain ⟨a, vv, qv, ev, rfl, hab, hcell⟩ := hc i hix
      obtain ⟨p, hpa⟩ : ∃ p, a.add (i * 4) = p := ⟨_, rfl⟩
      rw [hpa] at hcell
      obtain ⟨x, ex⟩ : ∃ x, ms[i] = x := ⟨_, rfl⟩
      rw [ex] at hcell HI EX
      clear ex hc e7 e8
      have M := hide (MonAt.made _ x vv qv ev 76 hcell.vars hcell.queues hcell.ents)
      obtain ⟨d0, d1, d2, d3, hv1, hv2, hv3⟩ := hcell
      obtain ⟨vo, vc, rfl, _⟩ := hv1
      obtain ⟨qo, qc, rfl, _⟩ := hv2
      obtain ⟨eo, ec, rfl, _⟩ := hv3
      have Z : Hid (Below W1.heap.size W1 (wr.alloc (.cells #[.string x.name, .slice vo x.vars.length vc, .slice qo x.queues.length qc, .slice eo x.ents.length ec] 76))) := HB2.out.alloc HB2.out.size _
      have CN := fun w => hide (specNameOk_any x.name w HI.out.name)
      have CA := fun w h => hide (l05Names_any (.slice vo x.vars.length vc) x.vars 3 w h HI.out.vars.1 HI.out.vars.2)
      have CQ := fun w h => hide (l05Names_any (.slice qo x.queues.length qc) x.queues 2 w h HI.out.queues.1 HI.out.queues.2)
      have hel : x.ents.length ≤ 1048576 := HI.out.len
      cases h1 : nameB x.name with
      | false =>
        have HF : Hid (listsB ms ps = false) := by show _ = _; rw [listsB, all_at_no EX.out (by simp [monB, h1])]; rfl
        rw [h1] at CN
        clear h1
        (go_wp2_with (first
    | (go_at_call 82; refine (unhide (CN _)).mono ?_; rintro e wk ⟨rfl, hbk⟩; have Z := hide (Z.out.trans (hbk.mono Z.out.size)); have M := hide (M.out.stays hbk); obtain ⟨g0, g1, g2, g3, _, _, _, _⟩ := M.out; clear hbk)
    | (go_at_call 83; refine (unhide (CA _ M.out.vars)).mono ?_; rintro e wk ⟨rfl, hbk⟩; have Z := hide (Z.out.trans (hbk.mono Z.out.size)); have M := hide (M.out.stays hbk); obtain ⟨g0, g1, g2, g3, _, _, _, _⟩ := M.out; clear hbk CA)
    | (go_at_call 83; refine (unhide (CQ _ M.out.queues)).mono ?_; rintro e wk ⟨rfl, hbk⟩; have Z := hide (Z.out.trans (hbk.mono Z.out.size)); have M := hide (M.out.stays hbk); obtain ⟨g0, g1, g2, g3, _, _, _, _⟩ := M.out; clear hbk CQ)
    | (go_at_call 31; refine (l01In_gen _ _ _ _).mono ?_; rintro e wv ⟨rfl, rfl⟩)))
        go_ret
        exact ⟨by rw [HF.out]; rfl, HB.out.trans (Z.out.mono HB.out.size)⟩
      | true =>
        rw [h1] at CN
        cases h2 : namesB x.vars 3 with
        | false =>
          have HF : Hid (listsB ms ps = false) := by show _ = _; rw [listsB, all_at_no EX.out (by simp [monB, h2])]; rfl
          rw [h2] at CA
          clear h1 h2
          (go_wp2_with (first
    | (go_at_call 82; refine (unhide (CN _)).mono ?_; rintro e wk ⟨rfl, hbk⟩; have Z := hide (Z.out.trans (hbk.mono Z.out.size)); have M := hide (M.out.stays hbk); obtain ⟨g0, g1, g2, g3, _, _, _, _⟩ := M.out; clear hbk)
    | (go_at_call 83; refine (unhide (CA _ M.out.vars)).mono ?_; rintro e wk ⟨rfl, hbk⟩; have Z := hide (Z.out.trans (hbk.mono Z.out.size)); have M := hide (M.out.stays hbk); obtain ⟨g0, g1, g2, g3, _, _, _, _⟩ := M.out; clear hbk CA)
    | (go_at_call 83; refine (unhide (CQ _ M.out.queues)).mono ?_; rintro e wk ⟨rfl, hbk⟩; have Z := hide (Z.out.trans (hbk.mono Z.out.size)); have M := hide (M.out.stays hbk); obtain ⟨g0, g1, g2, g3, _, _, _, _⟩ := M.out; clear hbk CQ)
    | (go_at_call 31; refine (l01In_gen _ _ _ _).mono ?_; rintro e wv ⟨rfl, rfl⟩)))
          go_ret
          exact ⟨by rw [HF.out]; rfl, HB.out.trans (Z.out.mono HB.out.size)⟩
        | true =>
          rw [h2] at CA
          cases h3 : namesB x.queues 2 with
          | false =>
            have HF : Hid (listsB ms ps = false) := by show _ = _; rw [listsB, all_at_no EX.out (by simp [monB, h3])]; rfl
            rw [h3] at CQ
            clear h1 h2 h3
            (go_wp2_with (first
    | (go_at_call 82; refine (unhide (CN _)).mono ?_; rintro e wk ⟨rfl, hbk⟩; have Z := hide (Z.out.trans (hbk.mono Z.out.size)); have M := hide (M.out.stays hbk); obtain ⟨g0, g1, g2, g3, _, _, _, _⟩ := M.out; clear hbk)
    | (go_at_call 83; refine (unhide (CA _ M.out.vars)).mono ?_; rintro e wk ⟨rfl, hbk⟩; have Z := hide (Z.out.trans (hbk.mono Z.out.size)); have M := hide (M.out.stays hbk); obtain ⟨g0, g1, g2, g3, _, _, _, _⟩ := M.out; clear hbk CA)
    | (go_at_call 83; refine (unhide (CQ _ M.out.queues)).mono ?_; rintro e wk ⟨rfl, hbk⟩; have Z := hide (Z.out.trans (hbk.mono Z.out.size)); have M := hide (M.out.stays hbk); obtain ⟨g0, g1, g2, g3, _, _, _, _⟩ := M.out; clear hbk CQ)
    | (go_at_call 31; refine (l01In_gen _ _ _ _).mono ?_; rintro e wv ⟨rfl, rfl⟩)))
            go_ret
            exact ⟨by rw [HF.out]; rfl, HB.out.trans (Z.out.mono HB.out.size)⟩
          | true =>
            rw [h3] at CQ
            cases h4 : inZ 1 3 x.ents.length with
            | false =>
              have HF : Hid (listsB ms ps = false) := by show _ = _; rw [listsB, all_at_no EX.out (by simp [monB, h4])]; rfl
              clear h1 h2 h3
              (go_wp2_with (first
    | (go_at_call 82; refine (unhide (CN _)).mono ?_; rintro e wk ⟨rfl, hbk⟩; have Z := hide (Z.out.trans (hbk.mono Z.out.size)); have M := hide (M.out.stays hbk); obtain ⟨g0, g1, g2, g3, _, _, _, _⟩ := M.out; clear hbk)
    | (go_at_call 83; refine (unhide (CA _ M.out.vars)).mono ?_; rintro e wk ⟨rfl, hbk⟩; have Z := hide (Z.out.trans (hbk.mono Z.out.size)); have M := hide (M.out.stays hbk); obtain ⟨g0, g1, g2, g3, _, _, _, _⟩ := M.out; clear hbk CA)
    | (go_at_call 83; refine (unhide (CQ _ M.out.queues)).mono ?_; rintro e wk ⟨rfl, hbk⟩; have Z := hide (Z.out.trans (hbk.mono Z.out.size)); have M := hide (M.out.stays hbk); obtain ⟨g0, g1, g2, g3, _, _, _, _⟩ := M.out; clear hbk CQ)
    | (go_at_call 31; refine (l01In_gen _ _ _ _).mono ?_; rintro e wv ⟨rfl, rfl⟩)))
              go_ret
              exact ⟨by rw [HF.out]; rfl, HB.out.trans (Z.out.mono HB.out.size)⟩
            | true =>
              have HM2 : Hid (∀ b, x.ents.all entB = b → monB x = b) := fun b hb => by rw [monB, h1, h2, h3, h4, hb]; cases b <;> rfl
              clear h1 h2 h3
              (go_wp2_with (first
    | (go_at_call 82; refine (unhide (CN _)).mono ?_; rintro e wk ⟨rfl, hbk⟩; have Z := hide (Z.out.trans (hbk.mono Z.out.size)); have M := hide (M.out.stays hbk); obtain ⟨g0, g1, g2, g3, _, _, _, _⟩ := M.out; clear hbk)
    | (go_at_call 83; refine (unhide (CA _ M.out.vars)).mono ?_; rintro e wk ⟨rfl, hbk⟩; have Z := hide (Z.out.trans (hbk.mono Z.out.size)); have M := hide (M.out.stays hbk); obtain ⟨g0, g1, g2, g3, _, _, _, _⟩ := M.out; clear hbk CA)
    | (go_at_call 83; refine (unhide (CQ _ M.out.queues)).mono ?_; rintro e wk ⟨rfl, hbk⟩; have Z := hide (Z.out.trans (hbk.mono Z.out.size)); have M := hide (M.out.stays hbk); obtain ⟨g0, g1, g2, g3, _, _, _, _⟩ := M.out; clear hbk CQ)
    | (go_at_call 31; refine (l01In_gen _ _ _ _).mono ?_; rintro e wv ⟨rfl, rfl⟩)))
              clear CN d0 d1 d2 d3 h4 c0 c1 c2 hab
              obtain ⟨m, em⟩ : ∃ m, x.ents.length = m := ⟨_, rfl⟩
              have EM := hide em
              rw [em] at hel M
              have Z0 := Z
              have M0 := M
              clear em
              repeat clear Z
              repeat clear M
              repeat clear g0
              repeat clear g1
              repeat clear g2
              repeat clear g3
              go_loopw [5] (LstR wv x.ents entB) (fun iv _ => m - (intOf iv).toNat)
              case atStart => exact ⟨0, by omega, rfl, Below.refl _ _, fun j x h => absurd h (Nat.not_lt_zero j)⟩
              case round =>
                obtain ⟨j, hj, rfl, HB4, HA4⟩ := hrel
                rw [EM.out] at hj
                have Z := hide (Z0.out.trans (HB4.out.mono Z0.out.size))
                have M := hide (M0.out.stays HB4.out)
                obtain ⟨g0, g1, g2, g3, _, _, _, hev⟩ := M.out
                by_cases hlt2 : j < m
                · have hlt2' : (j : Int) < (m : Int) := by omega
                  have hj0 : (0 : Int) ≤ (j : Int) := by omega
                  have hjx : j < x.ents.length := by rw [EM.out]; exact hlt2
                  obtain ⟨eo', ec', e5, hc⟩ := hev
                  injection e5 with e6 e7 e8
                  subst e6
                  obtain ⟨b, rfl, hbb, hy⟩ := hc j hjx
                  obtain ⟨r, hra⟩ : ∃ r, b.add (j * 3) = r := ⟨_, rfl⟩
                  have YB : Hid (r.block < wr.heap.size) := by rw [← hra, block_add]; exact hbb
                  rw [hra] at hy
                  have EY : Hid (x.ents[j]? = some x.ents[j]) := List.getElem?_eq_getElem hjx
                  have HEI := hide (HI.out.ents _ (List.getElem_mem hjx))
                  obtain ⟨y, ey⟩ : ∃ y, x.ents[j] = y := ⟨_, rfl⟩
                  rw [ey] at hy EY HEI
                  have Y := hide hy
                  clear ey hc e7 e8 hbb
                  obtain ⟨y0, y1, y2⟩ := hy
                  have ZZ := hide HB4.out
                  have CE1 := fun w => hide (specNameOk_any y.name w HEI.out.1)
                  have CE2 := fun w => hide (specNameOk_any y.param w HEI.out.2)
                  cases k1 : nameB y.name with
                  | false =>
                    have HF : Hid (listsB ms ps = false) := by show _ = _; rw [listsB, all_at_no EX.out (HM2.out _ (all_at_no EY.out (by simp [entB, k1])))]; rfl
                    rw [k1] at CE1
                    clear k1 CE2
                    go_wp2_with (go_at_call 82; refine (unhide (CE1 _)).mono ?_; rintro e wk ⟨rfl, hbk⟩; have Z := hide (Z.out.trans (hbk.mono Z.out.size)))
                    go_ret
                    exact ⟨by rw [HF.out]; rfl, HB.out.trans (Z.out.mono HB.out.size)⟩
                  | true =>
                    rw [k1] at CE1
                    cases k2 : nameB y.param with
                    | false =>
                      have HF : Hid (listsB ms ps = false) := by show _ = _; rw [listsB, all_at_no EX.out (HM2.out _ (all_at_no EY.out (by simp [entB, k2])))]; rfl
                      rw [k2] at CE2
                      clear k1 k2
                      (go_wp2_with (first
    | (go_at_call 82; refine (unhide (CE1 _)).mono ?_; rintro e wk ⟨rfl, hbk⟩; have Z := hide (Z.out.trans (hbk.mono Z.out.size)); have ZZ := hide (ZZ.out.trans (hbk.mono ZZ.out.size)); have M := hide (M.out.stays hbk); obtain ⟨g0, g1, g2, g3, _, _, _, _⟩ := M.out; have Y := hide (Y.out.stays hbk YB.out); have YB := hide (Nat.lt_of_lt_of_le YB.out hbk.size); obtain ⟨y0, y1, y2⟩ := Y.out; clear hbk CE1)
    | (go_at_call 82; refine (unhide (CE2 _)).mono ?_; rintro e wk ⟨rfl, hbk⟩; have Z := hide (Z.out.trans (hbk.mono Z.out.size)); have ZZ := hide (ZZ.out.trans (hbk.mono ZZ.out.size)); have M := hide (M.out.stays hbk); obtain ⟨g0, g1, g2, g3, _, _, _, _⟩ := M.out; have Y := hide (Y.out.stays hbk YB.out); have YB := hide (Nat.lt_of_lt_of_le YB.out hbk.size); obtain ⟨y0, y1, y2⟩ := Y.out; clear hbk CE2)))
                      go_ret
                      exact ⟨by rw [HF.out]; rfl, HB.out.trans (Z.out.mono HB.out.size)⟩
                    | true =>
                      have HT : Hid (entB y = true) := by show _ = _; rw [entB, k1, k2]; rfl
                      rw [k2] at CE2
                      clear k1 k2
                      (go_wp2_with (first
    | (go_at_call 82; refine (unhide (CE1 _)).mono ?_; rintro e wk ⟨rfl, hbk⟩; have Z := hide (Z.out.trans (hbk.mono Z.out.size)); have ZZ := hide (ZZ.out.trans (hbk.mono ZZ.out.size)); have M := hide (M.out.stays hbk); obtain ⟨g0, g1, g2, g3, _, _, _, _⟩ := M.out; have Y := hide (Y.out.stays hbk YB.out); have YB := hide (Nat.lt_of_lt_of_le YB.out hbk.size); obtain ⟨y0, y1, y2⟩ := Y.out; clear hbk CE1)
    | (go_at_call 82; refine (unhide (CE2 _)).mono ?_; rintro e wk ⟨rfl, hbk⟩; have Z := hide (Z.out.trans (hbk.mono Z.out.size)); have ZZ := hide (ZZ.out.trans (hbk.mono ZZ.out.size)); have M := hide (M.out.stays hbk); obtain ⟨g0, g1, g2, g3, _, _, _, _⟩ := M.out; have Y := hide (Y.out.stays hbk YB.out); have YB := hide (Nat.lt_of_lt_of_le YB.out hbk.size); obtain ⟨y0, y1, y2⟩ := Y.out; clear hbk CE2)))
                      go_roundw
                      case rel => exact ⟨j + 1, by rw [EM.out]; omega, by go_num, ZZ.out, LstR.next HA4.out EY.out HT.out⟩
                      case measure => simp [intOf]; omega
                · have hlt2' : ¬ (j : Int) < (m : Int) := by omega
                  have HT : Hid (monB x = true) := HM2.out _ (LstR.all HA4.out (by rw [EM.out]; omega))
                  clear hev
                  go_wp2
                  go_roundw
                  case rel => exact ⟨i + 1, by rw [EN.out]; omega, by go_num, Z.out, LstR.next HA.out EX.out HT.out⟩
                  case measure => simp [intOf]; omega
    · have hlt' : ¬ (i : Int) < (n : Int) := by omega
      have HT : Hid (ms.all monB = true) := LstR.all HA.out (by rw [EN.out]; omega)
      go_wp2
      go_loopw [6] (LstR W1 ps procB) (fun iv _ => q - (intOf iv).toNat)
      case atStart => exact ⟨0, by omega, rfl, HB2.out, fun j x h => absurd h (Nat.not_lt_zero j)⟩
      case round =>
        clear c0 c1 c2
        obtain ⟨k, hk, rfl, HB3, HA3⟩ := hrel
        obtain ⟨c0, c1, c2, _⟩ := HX.out.stays HB3.out
        rw [EQ.out] at hk
        by_cases hlt3 : k < q
        · have hlt3' : (k : Int) < (q : Int) := by omega
          have hk0 : (0 : Int) ≤ (k : Int) := by omega
          have hkx : k < ps.length := by rw [EQ.out]; exact hlt3
          have EX : Hid (ps[k]? = some ps[k]) := List.getElem?_eq_getElem hkx
          have HI := hide (hpi _ (List.getElem_mem hkx))
          obtain ⟨bo', cc, e5, hc⟩ := HP.out.stays HB3.out
          injection e5 with e6 e7 e8
          subst e6
          obtain ⟨a, uv, vv, rfl, hab, hcell⟩ := hc k hkx
          obtain ⟨p, hpa⟩ : ∃ p, a.add (k * 4) = p := ⟨_, rfl⟩
          rw [hpa] at hcell
          obtain ⟨x, ex⟩ : ∃ x, ps[k] = x := ⟨_, rfl⟩
          rw [ex] at hcell HI EX
          clear ex hc e7 e8
          have M := hide (ProcAt.made _ x uv vv 49 hcell.uses hcell.vars)
          obtain ⟨d0, d1, d2, d3, hv1, hv2⟩ := hcell
          obtain ⟨uo, uc, rfl, _⟩ := hv1
          obtain ⟨vo, vc, rfl, _⟩ := hv2
          have Z : Hid (Below W1.heap.size W1 (wr.alloc (.cells #[.string x.name, .slice uo x.uses.length uc, .slice vo x.vars.length vc, .int .i64 x.body] 49))) := HB3.out.alloc HB3.out.size _
          have CN := fun w => hide (specNameOk_any x.name w HI.out.name)
          have CA := fun w h => hide (l05Names_any (.slice uo x.uses.length uc) x.uses 3 w h HI.out.uses.1 HI.out.uses.2)
          have CQ := fun w h => hide (l05Names_any (.slice vo x.vars.length vc) x.vars 3 w h HI.out.vars.1 HI.out.vars.2)
          cases h1 : nameB x.name with
          | false =>
            have HF : Hid (listsB ms ps = false) := by show _ = _; rw [listsB, HT.out, all_at_no EX.out (by simp [procB, h1])]; rfl
            rw [h1] at CN
            clear h1
            (go_wp2_with (first
    | (go_at_call 82; refine (unhide (CN _)).mono ?_; rintro e wk ⟨rfl, hbk⟩; have Z := hide (Z.out.trans (hbk.mono Z.out.size)); have M := hide (M.out.stays hbk); obtain ⟨g0, g1, g2, g3, _, _, _⟩ := M.out; clear hbk)
    | (go_at_call 83; refine (unhide (CA _ M.out.uses)).mono ?_; rintro e wk ⟨rfl, hbk⟩; have Z := hide (Z.out.trans (hbk.mono Z.out.size)); have M := hide (M.out.stays hbk); obtain ⟨g0, g1, g2, g3, _, _, _⟩ := M.out; clear hbk CA)
    | (go_at_call 83; refine (unhide (CQ _ M.out.vars)).mono ?_; rintro e wk ⟨rfl, hbk⟩; have Z := hide (Z.out.trans (hbk.mono Z.out.size)); have M := hide (M.out.stays hbk); obtain ⟨g0, g1, g2, g3, _, _, _⟩ := M.out; clear hbk CQ)
    | (go_at_call 31; refine (l01In_gen _ _ _ _).mono ?_; rintro e wv ⟨rfl, rfl⟩)))
            go_ret
            exact ⟨by rw [HF.out]; rfl, HB.out.trans (Z.out.mono HB.out.size)⟩
          | true =>
            rw [h1] at CN
            cases h2 : namesB x.uses 3 with
            | false =>
              have HF : Hid (listsB ms ps = false) := by show _ = _; rw [listsB, HT.out, all_at_no EX.out (by simp [procB, h2])]; rfl
              rw [h2] at CA
              clear h1 h2
              (go_wp2_with (first
    | (go_at_call 82; refine (unhide (CN _)).mono ?_; rintro e wk ⟨rfl, hbk⟩; have Z := hide (Z.out.trans (hbk.mono Z.out.size)); have M := hide (M.out.stays hbk); obtain ⟨g0, g1, g2, g3, _, _, _⟩ := M.out; clear hbk)
    | (go_at_call 83; refine (unhide (CA _ M.out.uses)).mono ?_; rintro e wk ⟨rfl, hbk⟩; have Z := hide (Z.out.trans (hbk.mono Z.out.size)); have M := hide (M.out.stays hbk); obtain ⟨g0, g1, g2, g3, _, _, _⟩ := M.out; clear hbk CA)
    | (go_at_call 83; refine (unhide (CQ _ M.out.vars)).mono ?_; rintro e wk ⟨rfl, hbk⟩; have Z := hide (Z.out.trans (hbk.mono Z.out.size)); have M := hide (M.out.stays hbk); obtain ⟨g0, g1, g2, g3, _, _, _⟩ := M.out; clear hbk CQ)
    | (go_at_call 31; refine (l01In_gen _ _ _ _).mono ?_; rintro e wv ⟨rfl, rfl⟩)))
              go_ret
              exact ⟨by rw [HF.out]; rfl, HB.out.trans (Z.out.mono HB.out.size)⟩
            | true =>
              rw [h2] at CA
              cases h3 : namesB x.vars 3 with
              | false =>
                have HF : Hid (listsB ms ps = false) := by show _ = _; rw [listsB, HT.out, all_at_no EX.out (by simp [procB, h3])]; rfl
                rw [h3] at CQ
                clear h1 h2 h3
                (go_wp2_with (first
    | (go_at_call 82; refine (unhide (CN _)).mono ?_; rintro e wk ⟨rfl, hbk⟩; have Z := hide (Z.out.trans (hbk.mono Z.out.size)); have M := hide (M.out.stays hbk); obtain ⟨g0, g1, g2, g3, _, _, _⟩ := M.out; clear hbk)
    | (go_at_call 83; refine (unhide (CA _ M.out.uses)).mono ?_; rintro e wk ⟨rfl, hbk⟩; have Z := hide (Z.out.trans (hbk.mono Z.out.size)); have M := hide (M.out.stays hbk); obtain ⟨g0, g1, g2, g3, _, _, _⟩ := M.out; clear hbk CA)
    | (go_at_call 83; refine (unhide (CQ _ M.out.vars)).mono ?_; rintro e wk ⟨rfl, hbk⟩; have Z := hide (Z.out.trans (hbk.mono Z.out.size)); have M := hide (M.out.stays hbk); obtain ⟨g0, g1, g2, g3, _, _, _⟩ := M.out; clear hbk CQ)
    | (go_at_call 31; refine (l01In_gen _ _ _ _).mono ?_; rintro e wv ⟨rfl, rfl⟩)))
                go_ret
                exact ⟨by rw [HF.out]; rfl, HB.out.trans (Z.out.mono HB.out.size)⟩
              | true =>
                have HT2 : Hid (procB x = true) := by show _ = _; rw [procB, h1, h2, h3]; rfl
                rw [h3] at CQ
                clear h1 h2 h3
                (go_wp2_with (first
    | (go_at_call 82; refine (unhide (CN _)).mono ?_; rintro e wk ⟨rfl, hbk⟩; have Z := hide (Z.out.trans (hbk.mono Z.out.size)); have M := hide (M.out.stays hbk); obtain ⟨g0, g1, g2, g3, _, _, _⟩ := M.out; clear hbk)
    | (go_at_call 83; refine (unhide (CA _ M.out.uses)).mono ?_; rintro e wk ⟨rfl, hbk⟩; have Z := hide (Z.out.trans (hbk.mono Z.out.size)); have M := hide (M.out.stays hbk); obtain ⟨g0, g1, g2, g3, _, _, _⟩ := M.out; clear hbk CA)
    | (go_at_call 83; refine (unhide (CQ _ M.out.vars)).mono ?_; rintro e wk ⟨rfl, hbk⟩; have Z := hide (Z.out.trans (hbk.mono Z.out.size)); have M := hide (M.out.stays hbk); obtain ⟨g0, g1, g2, g3, _, _, _⟩ := M.out; clear hbk CQ)
    | (go_at_call 31; refine (l01In_gen _ _ _ _).mono ?_; rintro e wv ⟨rfl, rfl⟩)))
                go_roundw
                case rel => exact ⟨k + 1, by rw [EQ.out]; omega, by go_num, Z.out, LstR.next HA3.out EX.out HT2.out⟩
                case measure => simp [intOf]; omega
        · have hlt3' : ¬ (k : Int) < (q : Int) := by omega
          have HF : Hid (listsB ms ps = (decide ((n : Int) ≤ 3) && inZ 1 4 q)) := by
            show _ = _
            rw [listsB, HT.out, LstR.all HA3.out (by rw [EQ.out]; omega), EN.out, EQ.out]
            rfl
          have Z := HB3
          by_cases h3 : n ≤ 3
          · have h3' : (n : Int) ≤ 3 := by omega
            have HF : Hid (listsB ms ps = inZ 1 4 q) := by show _ = _; rw [HF.out]; simp [h3']
            (go_wp2_with (first
    | (go_at_call 82; refine (unhide (CN _)).mono ?_; rintro e wk ⟨rfl, hbk⟩; have Z := hide (Z.out.trans (hbk.mono Z.out.size)); have M := hide (M.out.stays hbk); obtain ⟨g0, g1, g2, g3, _, _, _⟩ := M.out; clear hbk)
    | (go_at_call 83; refine (unhide (CA _ M.out.uses)).mono ?_; rintro e wk ⟨rfl, hbk⟩; have Z := hide (Z.out.trans (hbk.mono Z.out.size)); have M := hide (M.out.stays hbk); obtain ⟨g0, g1, g2, g3, _, _, _⟩ := M.out; clear hbk CA)
    | (go_at_call 83; refine (unhide (CQ _ M.out.vars)).mono ?_; rintro e wk ⟨rfl, hbk⟩; have Z := hide (Z.out.trans (hbk.mono Z.out.size)); have M := hide (M.out.stays hbk); obtain ⟨g0, g1, g2, g3, _, _, _⟩ := M.out; clear hbk CQ)
    | (go_at_call 31; refine (l01In_gen _ _ _ _).mono ?_; rintro e wv ⟨rfl, rfl⟩)))
            go_ret
            exact ⟨by rw [HF.out]; rfl, HB.out.trans (Z.out.mono HB.out.size)⟩
          · have h3' : ¬ (n : Int) ≤ 3 := by omega
            have HF : Hid (listsB ms ps = false) := by show _ = _; rw [HF.out]; simp [h3']
            (go_wp2_with (first
    | (go_at_call 82; refine (unhide (CN _)).mono ?_; rintro e wk ⟨rfl, hbk⟩; have Z := hide (Z.out.trans (hbk.mono Z.out.size)); have M := hide (M.out.stays hbk); obtain ⟨g0, g1, g2, g3, _, _, _⟩ := M.out; clear hbk)
    | (go_at_call 83; refine (unhide (CA _ M.out.uses)).mono ?_; rintro e wk ⟨rfl, hbk⟩; have Z := hide (Z.out.trans (hbk.mono Z.out.size)); have M := hide (M.out.stays hbk); obtain ⟨g0, g1, g2, g3, _, _, _⟩ := M.out; clear hbk CA)
    | (go_at_call 83; refine (unhide (CQ _ M.out.vars)).mono ?_; rintro e wk ⟨rfl, hbk⟩; have Z := hide (Z.out.trans (hbk.mono Z.out.size)); have M := hide (M.out.stays hbk); obtain ⟨g0, g1, g2, g3, _, _, _⟩ := M.out; clear hbk CQ)
    | (go_at_call 31; refine (l01In_gen _ _ _ _).mono ?_; rintro e wv ⟨rfl, rfl⟩)))
            go_ret
            exact ⟨by rw [HF.out]; rfl, HB.out.trans (Z.out.mono HB.out.size)⟩
end Go.Proofs.YtpdpmnkonkpheaaGreat

namespace Go.Proofs.YtpdpmnkonkpheaaGreat
open Go.RowKit

theorem le_sum {α : Type} (f : α → Nat) : ∀ (xs : List α) (x : α), x ∈ xs → f x ≤ (xs.map f).sum
  | y :: xs, x, h => by
    rw [List.map_cons, List.sum_cons]
    rcases List.mem_cons.1 h with h | h
    · subst h; omega
    · have := le_sum f xs x h; omega
theorem szStrs_in {xs : List ByteArray} (h : szStrs xs ≤ 1048576) : SsIn xs := by
  unfold szStrs at h
  exact ⟨by omega, fun x hx => by have := le_sum ByteArray.size xs x hx; omega⟩
/-- A program that holds no more than may be. -/
structure PgIn (x : Pg) : Prop where
  len : PgLen x
  nodes : NsIn x.nodes
  mons : ∀ m ∈ x.mons, MoIn m
  pros : ∀ p ∈ x.pros, PrIn p
theorem szPg_in {x : Pg} (h : szPg x ≤ 1048576) : PgIn x := by
  unfold szPg szNds szMos szPrs at h
  have hn : ∀ y ∈ x.nodes, szNd y ≤ 1048576 := fun y hy => by have := le_sum szNd x.nodes y hy; omega
  have hm : ∀ y ∈ x.mons, szMo y ≤ 1048576 := fun y hy => by have := le_sum szMo x.mons y hy; omega
  have hp : ∀ y ∈ x.pros, szPr y ≤ 1048576 := fun y hy => by have := le_sum szPr x.pros y hy; omega
  have hmi : ∀ m ∈ x.mons, MoIn m := fun m hmm => by
    have h1 := hm m hmm
    unfold szMo at h1
    have h2 : szEns m.ents ≤ 1048576 := by omega
    unfold szEns at h2
    exact ⟨by omega, szStrs_in (by omega), szStrs_in (by omega), by omega, fun e he => by
      have := le_sum szEn m.ents e he
      have e2 : szEn e = e.name.size + e.param.size := rfl
      omega⟩
  have hpi : ∀ p ∈ x.pros, PrIn p := fun p hpp => by
    have h1 := hp p hpp
    unfold szPr at h1
    exact ⟨by omega, szStrs_in (by omega), szStrs_in (by omega)⟩
  have hni : NsIn x.nodes := fun y hy => by
    have h1 := hn y hy
    unfold szNd at h1
    omega
  exact ⟨⟨by omega, by omega, by omega, fun y hy => (hni y hy).1, fun y hy => ⟨(hmi y hy).vars.1, (hmi y hy).queues.1, (hmi y hy).len⟩, fun y hy => ⟨(hpi y hy).uses.1, (hpi y hy).vars.1⟩⟩, hni, hmi, hpi⟩

/-- A program at three values. -/
structure PgAt (w : World) (nv mv pv : Value) (x : Pg) : Prop where
  nodes : NdsAt w nv x.nodes
  mons : MosAt w mv x.mons
  pros : PrsAt w pv x.pros
theorem PgAt.stays {w w' : World} {nv mv pv : Value} {x : Pg} (h : PgAt w nv mv pv x) (hb : Below w.heap.size w w') : PgAt w' nv mv pv x := ⟨h.nodes.stays hb, h.mons.stays hb, h.pros.stays hb⟩
theorem ProgC.at {base : Nat} {w : World} {a b c : Value} {x : Pg} (h : ProgC base w [a, b, c] x) : PgAt w a b c x ∧ NdsRoom w a x.nodes.length := by
  obtain ⟨nv, mv, pv, e, h1, h2, h3⟩ := h
  injection e with e1 e2
  injection e2 with e2 e3
  injection e3 with e3 _
  subst e1 e2 e3
  exact ⟨⟨h1.at, h2.at, h3.at⟩, h1.room⟩

/-- What holds while a law on one program runs: the argument in its box, the copy in its box. -/
structure LawB (w : World) (nv mv pv : Value) (x : Pg) (g : Nat) (a b c : Value) (z : World) : Prop where
  bA : Box z w.heap.size #[nv, mv, pv] 26
  b0 : Box z g #[a, b, c] 33
  bel : Below w.heap.size w z
  arg : PgAt z nv mv pv x
  own : PgAt z a b c x
theorem LawB.stays {w : World} {nv mv pv : Value} {x : Pg} {g : Nat} {a b c : Value} {z z' : World} (h : LawB w nv mv pv x g a b c z) (hb : Below z.heap.size z z') : LawB w nv mv pv x g a b c z' :=
  ⟨h.bA.stays hb, h.b0.stays hb, h.bel.trans (hb.mono h.bel.size), h.arg.stays hb, h.own.stays hb⟩
theorem LawB.spread {w : World} {nv mv pv : Value} {x : Pg} {g : Nat} {a b c : Value} {z : World} (h : LawB w nv mv pv x g a b c z) :
    z.cell? ⟨w.heap.size, 0, none⟩ = some nv ∧ z.cell? ⟨w.heap.size, 1, none⟩ = some mv ∧ z.cell? ⟨w.heap.size, 2, none⟩ = some pv ∧ z.cell? ⟨g, 0, none⟩ = some a ∧ z.cell? ⟨g, 1, none⟩ = some b ∧ z.cell? ⟨g, 2, none⟩ = some c ∧ Hid (LawB w nv mv pv x g a b c z) :=
  ⟨Lib.cell_of_heap h.bA 0, Lib.cell_of_heap h.bA 1, Lib.cell_of_heap h.bA 2, Lib.cell_of_heap h.b0 0, Lib.cell_of_heap h.b0 1, Lib.cell_of_heap h.b0 2, h⟩
theorem eqProgram_at {w : World} {a b c a' b' c' : Value} {x : Pg} (h : PgAt w a b c x) (k : PgAt w a' b' c' x) (hL : PgLen x) :
    Calls Tryz.prog 8 #[.agg #[a, b, c], .agg #[a', b', c']] w fun e w' => e = .returned (.bool true) ∧ Below w.heap.size w w' :=
  eqProgram_same x a a' b b' c c' w h.nodes k.nodes h.mons k.mons h.pros k.pros hL
theorem toProgram_at {w : World} {nv mv pv : Value} {x : Pg} (h : PgAt w nv mv pv x) (hL : PgLen x) :
    Calls Tryz.prog 6 #[.agg #[nv, mv, pv]] w fun e w' => ∃ o0 n0 c0 o1 n1 c1 o2 n2 c2, e = .returned (.agg #[.slice o0 n0 c0, .slice o1 n1 c1, .slice o2 n2 c2]) ∧ ProgC w.heap.size w' [.slice o0 n0 c0, .slice o1 n1 c1, .slice o2 n2 c2] x ∧ Below w.heap.size w w' :=
  toProgram_any x nv mv pv w h.nodes h.mons h.pros hL

end Go.Proofs.YtpdpmnkonkpheaaGreat
