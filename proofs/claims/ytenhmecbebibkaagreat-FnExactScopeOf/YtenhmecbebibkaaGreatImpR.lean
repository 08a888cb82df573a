/-
  Walks: no list of a program too long or too short, by the program.
-/
import Derived.Test.YtenhmecbebibkaaGreatAid
import Derived.Test.YtenhmecbebibkaaGreatRowQ
import Derived.Handy
import Derived.Test.YtenhmecbebibkaaGreatImpD
namespace Go.Proofs.YtenhmecbebibkaaGreat
open Go.RowKit

def fitM (x : Mo) : Bool := decide (x.vars.length ≤ 3) && decide (x.queues.length ≤ 2) && (decide (1 ≤ x.ents.length) && decide (x.ents.length ≤ 3))
def fitP (x : Pr) : Bool := decide (x.uses.length ≤ 3) && decide (x.vars.length ≤ 3)
def fitsB (n : Nat) (ms : List Mo) (ps : List Pr) : Bool := (decide (n ≤ 160) && decide (ms.length ≤ 3)) && (decide (1 ≤ ps.length) && decide (ps.length ≤ 4)) && (ms.all fitM && ps.all fitP)
def FitR {α : Type} (W : World) (xs : List α) (q : α → Bool) (iv : Value) (wr : World) : Prop :=
  ∃ i : Nat, i ≤ xs.length ∧ iv = .int .i64 i ∧ Hid (Below W.heap.size W wr) ∧ Hid (∀ (j : Nat) (x : α), j < i → xs[j]? = some x → q x = true)
theorem FitR.no {α : Type} {q : α → Bool} {l : List α} {i : Nat} {x : α} (h : l[i]? = some x) (hq : q x = false) : l.all q = false := by
  rw [List.all_eq_false]
  exact ⟨x, List.mem_of_getElem? h, by simp [hq]⟩
theorem FitR.all {α : Type} {q : α → Bool} {l : List α} {i : Nat} (h : ∀ (j : Nat) (x : α), j < i → l[j]? = some x → q x = true) (hi : l.length ≤ i) : l.all q = true := by
  rw [List.all_eq_true]
  intro x hx
  obtain ⟨j, hj⟩ := List.mem_iff_getElem?.1 hx
  exact h j x (by have := (List.getElem?_eq_some_iff.1 hj).1; omega) hj

set_option maxRecDepth 100000 in
set_option maxHeartbeats 4000000 in
theorem fitsP_any (nv mv pv : Value) (ns : List Nd) (ms : List Mo) (ps : List Pr) (w : World) (hN : NdsAt w nv ns) (hM : MosAt w mv ms) (hP : PrsAt w pv ps) :
    Calls Tryz.prog 45 #[.agg #[nv, mv, pv]] w fun e w' => e = .returned (.bool (fitsB ns.length ms ps)) ∧ Below w.heap.size w w' := by
  have hb1 : Below w.heap.size w (w.alloc (.cells #[nv, mv, pv] 33)) := (Below.refl _ _).alloc (Nat.le_refl _) _
  have HM := hide (hM.stays hb1)
  have HP := hide (hP.stays hb1)
  have HX := hide (Boxed.made w nv mv pv 33)
  have HB := hide hb1
  clear hb1
  obtain ⟨ao, c, rfl, _⟩ := hN
  obtain ⟨mo, mc, rfl, _⟩ := hM
  obtain ⟨po, pc, rfl, _⟩ := hP
  obtain ⟨n, en⟩ : ∃ n, ns.length = n := ⟨_, rfl⟩
  rw [en] at HM HP HX HB ⊢
  obtain ⟨m, em⟩ : ∃ m, ms.length = m := ⟨_, rfl⟩
  have EM := hide em
  obtain ⟨q, eq⟩ : ∃ q, ps.length = q := ⟨_, rfl⟩
  have EQ := hide eq
  rw [em, eq] at HM HP HX HB ⊢
  have HU : Hid (fitsB n ms ps = ((decide (n ≤ 160) && decide (m ≤ 3)) && (decide (1 ≤ q) && decide (q ≤ 4)) && (ms.all fitM && ps.all fitP))) := by show _ = _; rw [fitsB, em, eq]
  clear en em eq
  by_cases h1 : n ≤ 160
  case neg =>
    have h1' : (160 : Int) < (n : Int) := by omega
    have HF : Hid (fitsB n ms ps = false) := by show _ = _; rw [HU.out]; simp [h1]
    go_enter Tryz.func45, Tryz.ntmps45
    (
  go_wp2;
  go_ret;
  exact ⟨by rw [HF.out]; rfl, HB.out⟩)
  have h1' : ¬ (160 : Int) < (n : Int) := by omega
  by_cases h2 : m ≤ 3
  case neg =>
    have h2' : (3 : Int) < (m : Int) := by omega
    have HF : Hid (fitsB n ms ps = false) := by show _ = _; rw [HU.out]; simp [h2]
    go_enter Tryz.func45, Tryz.ntmps45
    (
  go_wp2;
  go_ret;
  exact ⟨by rw [HF.out]; rfl, HB.out⟩)
  have h2' : ¬ (3 : Int) < (m : Int) := by omega
  by_cases h3 : 1 ≤ q
  case neg =>
    have h3' : (q : Int) < 1 := by omega
    have HF : Hid (fitsB n ms ps = false) := by show _ = _; rw [HU.out]; simp [h3]
    go_enter Tryz.func45, Tryz.ntmps45
    (
  go_wp2;
  go_ret;
  exact ⟨by rw [HF.out]; rfl, HB.out⟩)
  have h3' : ¬ (q : Int) < 1 := by omega
  by_cases h4 : q ≤ 4
  case neg =>
    have h4' : (4 : Int) < (q : Int) := by omega
    have HF : Hid (fitsB n ms ps = false) := by show _ = _; rw [HU.out]; simp [h4]
    go_enter Tryz.func45, Tryz.ntmps45
    (
  go_wp2;
  go_ret;
  exact ⟨by rw [HF.out]; rfl, HB.out⟩)
  have h4' : ¬ (4 : Int) < (q : Int) := by omega
  have HV : Hid (fitsB n ms ps = (ms.all fitM && ps.all fitP)) := by show _ = _; rw [HU.out]; simp [h1, h2, h3, h4]
  clear HU
  go_enter Tryz.func45, Tryz.ntmps45
  go_wp2
  obtain ⟨W1, hW⟩ : ∃ W1, w.alloc (.cells #[.slice ao n c, .slice mo m mc, .slice po q pc] 33) = W1 := ⟨_, rfl⟩
  rw [hW] at HM HP HX HB ⊢
  clear hW
  go_loopw [30] (FitR W1 ms fitM) (fun iv _ => m - (intOf iv).toNat)
  case atStart => exact ⟨0, by omega, rfl, Below.refl _ _, fun j x hj => absurd hj (Nat.not_lt_zero j)⟩
  case round =>
    obtain ⟨i, hi, rfl, HB2, HA⟩ := hrel
    rw [EM.out] at hi
    obtain ⟨c0, c1, c2, _⟩ := HX.out.stays HB2.out
    by_cases hlt : i < m
    · have hlt' : (i : Int) < (m : Int) := by omega
      have hi0 : (0 : Int) ≤ (i : Int) := by omega
      have hix : i < ms.length := by rw [EM.out]; exact hlt
      have EX : Hid (ms[i]? = some ms[i]) := List.getElem?_eq_getElem hix
      obtain ⟨mo', cc, e5, hc⟩ := HM.out.stays HB2.out
      injection e5 with e6 e7 e8
      subst e6
      obtain ⟨a, vv, qv, ev, rfl, hab, hcell⟩ := hc i hix
      obtain ⟨p, hpa⟩ : ∃ p, a.add (i * 4) = p := ⟨_, rfl⟩
      rw [hpa] at hcell
      obtain ⟨x, ex⟩ : ∃ x, ms[i] = x := ⟨_, rfl⟩
      rw [ex] at hcell EX
      obtain ⟨d0, d1, d2, d3, hv1, hv2, hv3⟩ := hcell
      obtain ⟨vo, vc, rfl, _⟩ := hv1
      obtain ⟨qo, qc, rfl, _⟩ := hv2
      obtain ⟨eo, ec, rfl, _⟩ := hv3
      clear ex hc e7 e8
      have HUM : Hid (fitM x = (decide (x.vars.length ≤ 3) && decide (x.queues.length ≤ 2) && (decide (1 ≤ x.ents.length) && decide (x.ents.length ≤ 3)))) := rfl
      obtain ⟨s1, es1⟩ : ∃ s1, x.vars.length = s1 := ⟨_, rfl⟩
      obtain ⟨s2, es2⟩ : ∃ s2, x.queues.length = s2 := ⟨_, rfl⟩
      obtain ⟨s3, es3⟩ : ∃ s3, x.ents.length = s3 := ⟨_, rfl⟩
      rw [es1] at d1 HUM
      rw [es2] at d2 HUM
      rw [es3] at d3 HUM
      have HB3 : Hid (Below W1.heap.size W1 (wr.alloc (.cells #[.string x.name, .slice vo s1 vc, .slice qo s2 qc, .slice eo s3 ec] 54))) := HB2.out.alloc HB2.out.size _
      clear es1 es2 es3
      by_cases g1 : s1 ≤ 3
      case neg =>
        have g1' : (3 : Int) < (s1 : Int) := by omega
        have HF : Hid (fitsB n ms ps = false) := by show _ = _; rw [HV.out, FitR.no EX.out (by rw [HUM.out]; simp [g1])]; rfl
        go_wp2
        go_ret
        exact ⟨by rw [HF.out]; rfl, HB.out.trans (HB3.out.mono HB.out.size)⟩
      have g1' : ¬ (3 : Int) < (s1 : Int) := by omega
      by_cases g2 : s2 ≤ 2
      case neg =>
        have g2' : (2 : Int) < (s2 : Int) := by omega
        have HF : Hid (fitsB n ms ps = false) := by show _ = _; rw [HV.out, FitR.no EX.out (by rw [HUM.out]; simp [g2])]; rfl
        go_wp2
        go_ret
        exact ⟨by rw [HF.out]; rfl, HB.out.trans (HB3.out.mono HB.out.size)⟩
      have g2' : ¬ (2 : Int) < (s2 : Int) := by omega
      by_cases g3 : 1 ≤ s3
      case neg =>
        have g3' : (s3 : Int) < 1 := by omega
        have HF : Hid (fitsB n ms ps = false) := by show _ = _; rw [HV.out, FitR.no EX.out (by rw [HUM.out]; simp [g3])]; rfl
        go_wp2
        go_ret
        exact ⟨by rw [HF.out]; rfl, HB.out.trans (HB3.out.mono HB.out.size)⟩
      have g3' : ¬ (s3 : Int) < 1 := by omega
      by_cases g4 : s3 ≤ 3
      case neg =>
        have g4' : (3 : Int) < (s3 : Int) := by omega
        have HF : Hid (fitsB n ms ps = false) := by show _ = _; rw [HV.out, FitR.no EX.out (by rw [HUM.out]; simp [g4])]; rfl
        go_wp2
        go_ret
        exact ⟨by rw [HF.out]; rfl, HB.out.trans (HB3.out.mono HB.out.size)⟩
      have g4' : ¬ (3 : Int) < (s3 : Int) := by omega
      have HT : Hid (fitM x = true) := by show _ = _; rw [HUM.out]; simp [g1, g2, g3, g4]
      go_wp2
      go_roundw
      case rel => exact ⟨i + 1, by rw [EM.out]; omega, by go_num, HB3.out, fun j y hj hy => by
        rcases Nat.lt_succ_iff_lt_or_eq.1 hj with h | h
        · exact HA.out j y h hy
        · subst h; rw [EX.out] at hy; cases hy; exact HT.out⟩
      case measure => simp [intOf]; omega
    · have hlt' : ¬ (i : Int) < (m : Int) := by omega
      have HV2 : Hid (fitsB n ms ps = ps.all fitP) := by show _ = _; rw [HV.out, FitR.all HA.out (by rw [EM.out]; omega)]; rfl
      go_wp2
      go_loopw [60] (FitR W1 ps fitP) (fun iv _ => q - (intOf iv).toNat)
      case atStart => exact ⟨0, by omega, rfl, HB2.out, fun j x hj => absurd hj (Nat.not_lt_zero j)⟩
      case round =>
        clear c0 c1 c2
        obtain ⟨k, hk, rfl, HB4, HA4⟩ := hrel
        rw [EQ.out] at hk
        by_cases hltk : k < q
        · have hltk' : (k : Int) < (q : Int) := by omega
          have hk0 : (0 : Int) ≤ (k : Int) := by omega
          have hkx : k < ps.length := by rw [EQ.out]; exact hltk
          have EX : Hid (ps[k]? = some ps[k]) := List.getElem?_eq_getElem hkx
          obtain ⟨po', cc, e5, hc⟩ := HP.out.stays HB4.out
          injection e5 with e6 e7 e8
          subst e6
          obtain ⟨a, uv, vv, rfl, hab, hcell⟩ := hc k hkx
          obtain ⟨p, hpa⟩ : ∃ p, a.add (k * 4) = p := ⟨_, rfl⟩
          rw [hpa] at hcell
          obtain ⟨x, ex⟩ : ∃ x, ps[k] = x := ⟨_, rfl⟩
          rw [ex] at hcell EX
          obtain ⟨d0, d1, d2, d3, hv1, hv2⟩ := hcell
          obtain ⟨uo, uc, rfl, _⟩ := hv1
          obtain ⟨vo, vc, rfl, _⟩ := hv2
          clear ex hc e7 e8
          have HUM : Hid (fitP x = (decide (x.uses.length ≤ 3) && decide (x.vars.length ≤ 3))) := rfl
          obtain ⟨s1, es1⟩ : ∃ s1, x.uses.length = s1 := ⟨_, rfl⟩
          obtain ⟨s2, es2⟩ : ∃ s2, x.vars.length = s2 := ⟨_, rfl⟩
          rw [es1] at d1 HUM
          rw [es2] at d2 HUM
          have HB3 : Hid (Below W1.heap.size W1 (wr.alloc (.cells #[.string x.name, .slice uo s1 uc, .slice vo s2 vc, .int .i64 x.body] 57))) := HB4.out.alloc HB4.out.size _
          clear es1 es2
          by_cases g1 : s1 ≤ 3
          case neg =>
            have g1' : (3 : Int) < (s1 : Int) := by omega
            have HF : Hid (fitsB n ms ps = false) := by show _ = _; rw [HV2.out, FitR.no EX.out (by rw [HUM.out]; simp [g1])]
            go_wp2
            go_ret
            exact ⟨by rw [HF.out]; rfl, HB.out.trans (HB3.out.mono HB.out.size)⟩
          have g1' : ¬ (3 : Int) < (s1 : Int) := by omega
          by_cases g2 : s2 ≤ 3
          case neg =>
            have g2' : (3 : Int) < (s2 : Int) := by omega
            have HF : Hid (fitsB n ms ps = false) := by show _ = _; rw [HV2.out, FitR.no EX.out (by rw [HUM.out]; simp [g2])]
            go_wp2
            go_ret
            exact ⟨by rw [HF.out]; rfl, HB.out.trans (HB3.out.mono HB.out.size)⟩
          have g2' : ¬ (3 : Int) < (s2 : Int) := by omega
          have HT : Hid (fitP x = true) := by show _ = _; rw [HUM.out]; simp [g1, g2]
          go_wp2
          go_roundw
          case rel => exact ⟨k + 1, by rw [EQ.out]; omega, by go_num, HB3.out, fun j y hj hy => by
            rcases Nat.lt_succ_iff_lt_or_eq.1 hj with h | h
            · exact HA4.out j y h hy
            · subst h; rw [EX.out] at hy; cases hy; exact HT.out⟩
          case measure => simp [intOf]; omega
        · have hltk' : ¬ (k : Int) < (q : Int) := by omega
          have HF : Hid (fitsB n ms ps = true) := by show _ = _; rw [HV2.out, FitR.all HA4.out (by rw [EQ.out]; omega)]
          go_wp2
          go_ret
          exact ⟨by rw [HF.out]; rfl, HB.out.trans (HB4.out.mono HB.out.size)⟩
end Go.Proofs.YtenhmecbebibkaaGreat

namespace Go.Proofs.YtenhmecbebibkaaGreat
open Go.RowKit

theorem run_append_none {P : Program} (w : World) (t ty e : TypeId) (i : TypeInfo) (ht : P.underlying t = some (.slice e)) (hi : P.info? e = some i) (b : Option Addr) (n cap c : Nat) (h : n ≤ cap) :
    (Builtin.append_ #[t, t] ty #[.slice b n cap, .slice none 0 c]).run P w = .ok (.slice b n cap) w := by
  cases b with
  | none => simp [Builtin.append_, run_underlying ht, sizeOf, typeInfo, hi, Builtin.lenOf, h, run_firstCells_none]
  | some a => simp [Builtin.append_, run_underlying ht, sizeOf, typeInfo, hi, Builtin.lenOf, h, run_firstCells_none, storeCells]

/-- Boxes of another type stay while a row grows. -/
def BoxesKept (e : TypeId) (w w' : World) : Prop := ∀ g cs T, T ≠ e → Box w g cs T → Box w' g cs T
theorem BoxesKept.refl (e : TypeId) (w : World) : BoxesKept e w w := fun _ _ _ _ h => h
theorem boxes_grown {w w' : World} {base n : Nat} {e : TypeId} {v : Value} {xs : List Value} (hown : w.ownsRow base e 1 v n xs) (hg : w.grownBy w' v.ownBlock) : BoxesKept e w w' := fun g _cs _T hT hb =>
  (hg.block g hb.lt (Ne.symm (Lib.ownBlock_ne hown hb hT))).trans hb

/-- Several values appended to a row that is owned; boxes stay. -/
theorem wpList_appk {P : Program} {w : World} {ops : Array Oper} {rest : List Oper} {o : Oper} {a : Act} {Q : Exit → Act → World → Prop} (hgd : o.guard = none) (s x : Operand) (t : TypeId)
    (ho : o.op = .call { callee := .builtin .append, args := #[s, x], argTypes := #[t, t] })
    (base : Nat) (e : TypeId) (z : Value) (bytes : Nat) (ht : P.underlying t = some (.slice e)) (hi : (P.info? e).map (fun i => (i.zero, i.size, i.bytes)) = some (some z, 1, bytes)) (hzs : z.cells.size = 1)
    (v : Value) (n : Nat) (xs : List Value) (hs : a.eval s = v) (hown : w.ownsRow base e 1 v n xs)
    (ad : Addr) (m c : Nat) (news : List Value) (hx : a.eval x = .slice (some ad) m c) (hl : news.length = m) (hnews : ∀ j u, news[j]? = some u → w.cell? (ad.add j) = some u) (h1 : ∀ u ∈ news, u.oneCell' = true)
    (h63 : n + m ≤ maxLen) (hbytes : (n + m) * bytes ≤ 140737488355328) (hbase : base ≤ w.heap.size)
    (h : ∀ v' w', w'.ownsRow base e 1 v' (n + m) (xs ++ news) → Below base w w' → BoxesKept e w w' → wpList P ops Q rest (a.put o.dst v') w') : wpList P ops Q (o :: rest) a w := by
  obtain ⟨i, hi, hz0, hz1, hz2⟩ := info_parts hi
  refine wpList_append_own _ hgd s x t ho base e i z 1 bytes ht hi hz0 hz1 hz2 hzs (by decide) v n xs hs hown ad m c news hx (by omega) hnews h1 h63 hbytes hbase ?_
  intro v' w' hown' hgrow _
  exact h v' w' hown' ((Below.refl base w).grown hgrow hbase (fun j hj => (hown.lt j hj).1)) (boxes_grown hown hgrow)

/-- Values that lie in a new block of their own, appended. -/
theorem wpList_app_new {P : Program} {w : World} {ops : Array Oper} {rest : List Oper} {o : Oper} {a : Act} {Q : Exit → Act → World → Prop} {g : Nat} (hg : g = w.heap.size) (hgd : o.guard = none) (s x : Operand) (t : TypeId)
    (ho : o.op = .call { callee := .builtin .append, args := #[s, x], argTypes := #[t, t] })
    (base : Nat) (e : TypeId) (z : Value) (bytes : Nat) (ht : P.underlying t = some (.slice e)) (hi : (P.info? e).map (fun i => (i.zero, i.size, i.bytes)) = some (some z, 1, bytes)) (hzs : z.cells.size = 1)
    (v : Value) (n : Nat) (xs : List Value) (us : Array Value) (hs : a.eval s = v) (hown : w.ownsRow base e 1 v n xs)
    (m : Nat) (hx : a.eval x = .slice (some ⟨g, 0, none⟩) m m) (hm : us.size = m) (h1 : ∀ u ∈ us.toList, u.oneCell' = true)
    (h63 : n + m ≤ maxLen) (hbytes : (n + m) * bytes ≤ 140737488355328) (hbase : base ≤ w.heap.size)
    (h : ∀ v' w', w'.ownsRow base e 1 v' (n + m) (xs ++ us.toList) → Below base w w' → BoxesKept e w w' → wpList P ops Q rest (a.put o.dst v') w') : wpList P ops Q (o :: rest) a (w.alloc (.cells us e)) := by
  subst hg
  have hb : Below base w (w.alloc (.cells us e)) := (Below.refl _ _).alloc hbase _
  refine wpList_appk hgd s x t ho base e z bytes ht hi hzs v n xs hs (hown.alloc _) ⟨w.heap.size, 0, none⟩ m m us.toList hx (by simpa using hm) (fun j u hj => ?_) h1 h63 hbytes (by simp; omega) ?_
  · rw [add_zero_at, World.cell?_alloc_new]
    simpa using hj
  · intro v' w' h2 h3 h4
    refine h v' w' h2 (hb.trans h3) (fun g' cs T hT hbx => h4 g' cs T hT ?_)
    exact (Below.heap_alloc w _ g' hbx.lt).trans hbx

theorem wpList_app_strs {P : Program} {w : World} {ops : Array Oper} {rest : List Oper} {o : Oper} {a : Act} {Q : Exit → Act → World → Prop} (hgd : o.guard = none) (s x : Operand) (t : TypeId)
    (ho : o.op = .call { callee := .builtin .append, args := #[s, x], argTypes := #[t, t] })
    (base : Nat) (e : TypeId) (z : Value) (bytes : Nat) (ht : P.underlying t = some (.slice e)) (hi : (P.info? e).map (fun i => (i.zero, i.size, i.bytes)) = some (some z, 1, bytes)) (hzs : z.cells.size = 1)
    (v : Value) (n : Nat) (xs : List Value) (hs : a.eval s = v) (hown : w.ownsRow base e 1 v n xs)
    (xv : Value) (news : List ByteArray) (hx : a.eval x = xv) (hat : StrsAt w xv news)
    (h63 : n + news.length ≤ maxLen) (hbytes : (n + news.length) * bytes ≤ 140737488355328) (hbase : base ≤ w.heap.size)
    (h : ∀ v' w', w'.ownsRow base e 1 v' (n + news.length) (xs ++ news.map Value.string) → Below base w w' → BoxesKept e w w' → wpList P ops Q rest (a.put o.dst v') w') : wpList P ops Q (o :: rest) a w := by
  obtain ⟨ao, c, rfl, hc⟩ := hat
  cases ao with
  | some ad =>
    refine wpList_appk hgd s x t ho base e z bytes ht hi hzs v n xs hs hown ad news.length c (news.map Value.string) hx (by simp) (fun j u hj => ?_) (fun u hu => ?_) h63 hbytes hbase h
    · rw [List.getElem?_map] at hj
      obtain ⟨y, hy, rfl⟩ := Option.map_eq_some_iff.1 hj
      obtain ⟨hj2, rfl⟩ := List.getElem?_eq_some_iff.1 hy
      obtain ⟨a', ha, _, hcell⟩ := hc j hj2
      cases ha
      exact hcell
    · obtain ⟨y, _, rfl⟩ := List.mem_map.1 hu
      rfl
  | none =>
    have h0 : news = [] := by
      rcases news with _ | ⟨y, news⟩
      · rfl
      · obtain ⟨a', ha, _⟩ := hc 0 (by simp)
        simp at ha
    subst h0
    obtain ⟨i, hi2, _, _, _⟩ := info_parts hi
    have hv : ∃ b cap, v = .slice b n cap ∧ n ≤ cap := by
      rcases hown.2 with ⟨rfl, rfl⟩ | ⟨g, cap, cur, rfl, _, _, hr, _⟩
      · exact ⟨none, 0, rfl, Nat.le_refl _⟩
      · exact ⟨_, cap, rfl, hr⟩
    obtain ⟨b, cap, rfl, hr⟩ := hv
    have hrun := fun ty => run_append_none (P := P) w t ty e i ht hi2 b n cap c hr
    have hk := h (.slice b n cap) w (by simpa using hown) (Below.refl _ _) (BoxesKept.refl _ _)
    refine wpList_plain hgd fun K hK => ?_
    unfold Oper.wp execOp
    simp only [ho, resolve, invoke, builtin, Sem.run_bind, Sem.run_pure, Result.andThen_ok, List.map_toArray, List.map_cons, List.map_nil, hs, hx]
    simp only [List.length_nil]
    rw [hrun]
    exact hK _ _ hk
end Go.Proofs.YtenhmecbebibkaaGreat
