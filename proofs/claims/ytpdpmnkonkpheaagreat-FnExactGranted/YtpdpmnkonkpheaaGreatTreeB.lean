/-
  Walks: all bodies, by the specification.
-/
import Derived.Test.YtpdpmnkonkpheaaGreatAid
import Derived.Test.YtpdpmnkonkpheaaGreatRowQ
import Derived.Handy
namespace Go.Proofs.YtpdpmnkonkpheaaGreat
open Go.RowKit

/-- The bodies of the first i monitors. -/
def bodA (ms : List Mo) (i : Nat) : List Int := (ms.take i).flatMap fun m => m.ents.map En.body
theorem bodA_next {ms : List Mo} {i : Nat} (h : i < ms.length) : bodA ms (i + 1) = bodA ms i ++ ms[i].ents.map En.body := by
  rw [bodA, bodA, List.take_add_one, List.getElem?_eq_getElem h, List.flatMap_append]
  simp only [Option.toList, List.flatMap_cons, List.flatMap_nil, List.append_nil]
theorem bodA_all (ms : List Mo) : bodA ms ms.length = ms.flatMap fun m => m.ents.map En.body := by simp [bodA]
theorem bodA_le (ms : List Mo) (ps : List Pr) (i : Nat) : (bodA ms i).length ≤ (bodiesL ms ps).length := by
  have e : ms.flatMap (fun m => m.ents.map En.body) = bodA ms i ++ (ms.drop i).flatMap fun m => m.ents.map En.body := by
    rw [bodA, ← List.flatMap_append, List.take_append_drop]
  rw [bodiesL, e]
  simp
def bodC (ms : List Mo) (ps : List Pr) (i : Nat) : List Int := bodA ms ms.length ++ (ps.take i).map Pr.body
theorem bodC_all (ms : List Mo) (ps : List Pr) : bodC ms ps ps.length = bodiesL ms ps := by simp [bodC, bodiesL, bodA_all]
theorem bodC_next {ms : List Mo} {ps : List Pr} {i : Nat} (h : i < ps.length) : bodC ms ps (i + 1) = bodC ms ps i ++ [ps[i].body] := by
  rw [bodC, bodC, List.take_add_one, List.getElem?_eq_getElem h, List.map_append, ← List.append_assoc]
  rfl

def BodR (w W1 : World) (ms : List Mo) (v iv : Value) (wr : World) : Prop :=
  ∃ i : Nat, i ≤ ms.length ∧ iv = .int .i64 i ∧ Hid (wr.ownsRow (w.heap.size + 1) 3 1 v (bodA ms i).length ((bodA ms i).map I64)) ∧ Hid (Below W1.heap.size W1 wr)
def BodI (w W1 : World) (l : List Int) (es : List En) (v iv : Value) (wr : World) : Prop :=
  ∃ (j : Nat) (l' : List Int), j ≤ es.length ∧ iv = .int .i64 j ∧ l' = l ++ (es.take j).map En.body ∧ Hid (wr.ownsRow (w.heap.size + 1) 3 1 v l'.length (l'.map I64)) ∧ Hid (Below W1.heap.size W1 wr)
def BodP (w W1 : World) (ms : List Mo) (ps : List Pr) (v iv : Value) (wr : World) : Prop :=
  ∃ i : Nat, i ≤ ps.length ∧ iv = .int .i64 i ∧ Hid (wr.ownsRow (w.heap.size + 1) 3 1 v (bodC ms ps i).length ((bodC ms ps i).map I64)) ∧ Hid (Below W1.heap.size W1 wr)

set_option maxRecDepth 100000 in
set_option maxHeartbeats 2000000 in
theorem l05Bodies_any (nv mv pv : Value) (ms : List Mo) (ps : List Pr) (w : World) (hM : MosAt w mv ms) (hP : PrsAt w pv ps) (hl : (bodiesL ms ps).length ≤ 1048576) (hml : ms.length ≤ 1048576) (hpl : ps.length ≤ 1048576) (hel : ∀ m ∈ ms, m.ents.length ≤ 1048576) :
    Calls Tryz.prog 53 #[.agg #[nv, mv, pv]] w fun e w' => ∃ v, e = .returned v ∧ w'.ownsRow (w.heap.size + 1) 3 1 v (bodiesL ms ps).length ((bodiesL ms ps).map I64) ∧ Below w.heap.size w w' := by
  have hb1 : Below w.heap.size w (w.alloc (.cells #[nv, mv, pv] 33)) := (Below.refl _ _).alloc (Nat.le_refl _) _
  have HM := hide (hM.stays hb1)
  have HP := hide (hP.stays hb1)
  have HX := hide (Boxed.made w nv mv pv 33)
  have HB := hide hb1
  have HS : Hid ((w.alloc (.cells #[nv, mv, pv] 33)).heap.size = w.heap.size + 1) := by show _ = _; simp
  clear hb1
  obtain ⟨ao, c, rfl, _⟩ := hM
  obtain ⟨bo, d, rfl, _⟩ := hP
  go_enter Tryz.func53, Tryz.ntmps53
  go_wp2
  obtain ⟨W1, hW⟩ : ∃ W1, w.alloc (.cells #[nv, .slice ao ms.length c, .slice bo ps.length d] 33) = W1 := ⟨_, rfl⟩
  rw [hW] at HM HP HX HB HS ⊢
  clear hW
  obtain ⟨n, en⟩ : ∃ n, ms.length = n := ⟨_, rfl⟩
  have EN := hide en
  obtain ⟨q, eq⟩ : ∃ q, ps.length = q := ⟨_, rfl⟩
  have EQ := hide eq
  rw [en] at HM
  rw [eq] at HP
  rw [en, eq] at HX ⊢
  rw [en] at hml
  rw [eq] at hpl
  clear en eq
  go_loopw [3, 4] (BodR w W1 ms) (fun _ iv _ => n - (intOf iv).toNat)
  case atStart => exact ⟨0, by omega, rfl, by
    have := ownsRow_empty W1 (w.heap.size + 1) 3 (by rw [HS.out]; exact Nat.le_refl _)
    rw [HS.out] at this
    exact this, (Below.refl _ _).alloc (Nat.le_refl _) _⟩
  case round =>
    obtain ⟨i, hi, rfl, HO, HB2⟩ := hrel
    obtain ⟨c0, c1, c2, _⟩ := HX.out.stays HB2.out
    rw [EN.out] at hi
    by_cases hlt : i < n
    · have hlt' : (i : Int) < (n : Int) := by omega
      have hi0 : (0 : Int) ≤ (i : Int) := by omega
      have hix : i < ms.length := by rw [EN.out]; exact hlt
      have HEL := hide (hel _ (List.getElem_mem hix))
      have HNX := hide (bodA_next hix)
      obtain ⟨x, ex⟩ : ∃ x, ms[i] = x := ⟨_, rfl⟩
      have EX := hide ex
      rw [ex] at HEL HNX
      clear ex
      go_wp2
      go_loopw [3, 5] (BodI w W1 (bodA ms i) x.ents) (fun _ iv _ => x.ents.length - (intOf iv).toNat)
      case atStart => exact ⟨0, bodA ms i, by omega, rfl, by simp, HO.out, HB2.out⟩
      case round =>
        obtain ⟨j, l', hj, rfl, el, HO3, HB3⟩ := hrel
        have EL := hide el
        clear el
        obtain ⟨e0, e1, e2, _⟩ := HX.out.stays HB3.out
        obtain ⟨ao', cc, e5, hc⟩ := HM.out.stays HB3.out
        injection e5 with e6 e7 e8
        subst e6
        obtain ⟨a, vv, qv, ev, rfl, hab, hcell⟩ := hc i hix
        rw [EX.out] at hcell
        obtain ⟨p, hpa⟩ : ∃ p, a.add (i * 4) = p := ⟨_, rfl⟩
        rw [hpa] at hcell
        have d3 := hcell.c3
        obtain ⟨b, cb, rfl, hec⟩ := hcell.ents
        clear hc hcell e7 e8
        obtain ⟨m, em⟩ : ∃ m, x.ents.length = m := ⟨_, rfl⟩
        have EM := hide em
        rw [em] at d3 hj
        have hm : m ≤ 1048576 := by have := HEL.out; omega
        by_cases hlt2 : j < m
        · have hlt2' : (j : Int) < (m : Int) := by omega
          have hj0 : (0 : Int) ≤ (j : Int) := by omega
          have hjx : j < x.ents.length := by rw [EM.out]; exact hlt2
          obtain ⟨b, rfl, hbb, hy⟩ := hec j hjx
          obtain ⟨r, hra⟩ : ∃ r, b.add (j * 3) = r := ⟨_, rfl⟩
          rw [hra] at hy
          have y2 := hy.c2
          have EY : Hid (l' ++ [x.ents[j].body] = bodA ms i ++ (x.ents.take (j + 1)).map En.body) := by
            show _ = _
            rw [EL.out, List.take_add_one, List.getElem?_eq_getElem hjx, List.map_append, ← List.append_assoc]
            rfl
          obtain ⟨y, ey⟩ : ∃ y, x.ents[j].body = y := ⟨_, rfl⟩
          rw [ey] at y2 EY
          have HLN : Hid (l'.length + 1 ≤ 1048576) := by
            show _ ≤ _
            have h1 : (l' ++ [y]).length ≤ (bodA ms (i + 1)).length := by rw [EY.out, HNX.out]; simp; omega
            have h2 := bodA_le ms ps (i + 1)
            simp at h1
            omega
          clear hec hy ey em
          have hwz : w.heap.size + 1 ≤ wr.heap.size := by rw [← HS.out]; exact HB3.out.size
          go_wp2_with (at_builtin; refine wpList_app1 rfl (.tmp 26) (.tmp 37) 41 rfl (w.heap.size + 1) 3 (.int .i64 0) 8 Tryz.underlying41 Tryz.infoInt rfl _ l'.length _ _ rfl HO3.out rfl rfl (by have := HLN.out; unfold maxLen; omega) (by have := HLN.out; omega) hwz ?_)
          intro v' w4 hown4 hb4
          have R : BodI w W1 (bodA ms i) x.ents v' (.int .i64 ((j : Int) + 1)) w4 := ⟨j + 1, l' ++ [y], by rw [EM.out]; omega, rfl, EY.out, hide (by simpa using hown4), HB3.out.trans (by rw [HS.out]; exact hb4)⟩
          clear hown4 hb4
          go_wp2
          go_roundw
          case rel => exact R
          case measure => rw [EM.out]; simp [intOf]; omega
        · have hlt2' : ¬ (j : Int) < (m : Int) := by omega
          have EL2 : Hid (l' = bodA ms (i + 1)) := by
            show _ = _
            rw [EL.out, HNX.out, List.take_of_length_le (by rw [EM.out]; omega)]
          clear hec em
          go_wp2
          go_roundw
          case rel => exact ⟨i + 1, by rw [EN.out]; omega, by go_num, by rw [← EL2.out]; exact HO3.out, HB3.out⟩
          case measure => simp [intOf]; omega
    · have hlt' : ¬ (i : Int) < (n : Int) := by omega
      have ei : i = ms.length := by rw [EN.out]; omega
      have e00 : bodA ms i = bodC ms ps 0 := by simp [bodC, ei]
      have HO1 := HO
      rw [e00] at HO1
      clear e00
      clear HO ei
      go_wp2
      go_loopw [3, 6] (BodP w W1 ms ps) (fun _ iv _ => q - (intOf iv).toNat)
      case atStart => exact ⟨0, by omega, rfl, HO1.out, HB2.out⟩
      case round =>
        clear c0 c1 c2
        obtain ⟨i, hi, rfl, HO3, HB3⟩ := hrel
        obtain ⟨e0, e1, e2, _⟩ := HX.out.stays HB3.out
        rw [EQ.out] at hi
        by_cases hlt : i < q
        · have hlt' : (i : Int) < (q : Int) := by omega
          have hi0 : (0 : Int) ≤ (i : Int) := by omega
          have hix : i < ps.length := by rw [EQ.out]; exact hlt
          have HNX := hide (bodC_next (ms := ms) hix)
          obtain ⟨bo', cc, e5, hc⟩ := HP.out.stays HB3.out
          injection e5 with e6 e7 e8
          subst e6
          obtain ⟨a, uv, vv, rfl, hab, hcell⟩ := hc i hix
          obtain ⟨p, hpa⟩ : ∃ p, a.add (i * 4) = p := ⟨_, rfl⟩
          rw [hpa] at hcell
          have d3 := hcell.c3
          obtain ⟨y, ey⟩ : ∃ y, ps[i].body = y := ⟨_, rfl⟩
          rw [ey] at d3 HNX
          clear hc hcell e7 e8 ey
          have HLN : Hid ((bodC ms ps i).length + 1 ≤ 1048576) := by
            show _ ≤ _
            have h2 : (bodC ms ps (i + 1)).length ≤ (bodiesL ms ps).length := by
              rw [← bodC_all]; simp [bodC]; omega
            rw [HNX.out] at h2
            simp at h2
            omega
          have hwz : w.heap.size + 1 ≤ wr.heap.size := by rw [← HS.out]; exact HB3.out.size
          go_wp2_with (at_builtin; refine wpList_app1 rfl (.tmp 46) (.tmp 53) 41 rfl (w.heap.size + 1) 3 (.int .i64 0) 8 Tryz.underlying41 Tryz.infoInt rfl _ (bodC ms ps i).length _ _ rfl HO3.out rfl rfl (by have := HLN.out; unfold maxLen; omega) (by have := HLN.out; omega) hwz ?_)
          intro v' w4 hown4 hb4
          have R : BodP w W1 ms ps v' (.int .i64 ((i : Int) + 1)) w4 := ⟨i + 1, by rw [EQ.out]; omega, rfl, hide (by rw [HNX.out]; simpa using hown4), HB3.out.trans (by rw [HS.out]; exact hb4)⟩
          clear hown4 hb4
          go_wp2
          go_roundw
          case rel => exact R
          case measure => simp [intOf]; omega
        · have hlt' : ¬ (i : Int) < (q : Int) := by omega
          have ei : i = ps.length := by rw [EQ.out]; omega
          have HF : Hid (bodC ms ps i = bodiesL ms ps) := by show _ = _; rw [ei, bodC_all]
          rw [HF.out] at HO3
          clear ei
          go_wp2
          go_ret
          exact ⟨_, rfl, HO3.out, HB.out.trans (HB3.out.mono HB.out.size)⟩
end Go.Proofs.YtpdpmnkonkpheaaGreat

namespace Go.Proofs.YtpdpmnkonkpheaaGreat
open Go.RowKit

/-- One value appended, the block of that value told apart. -/
theorem wpList_app1g {P : Program} {w : World} {ops : Array Oper} {rest : List Oper} {o : Oper} {a : Act} {Q : Exit → Act → World → Prop} {g : Nat} (hg : g = w.heap.size) (hgd : o.guard = none) (s x : Operand) (t : TypeId)
    (ho : o.op = .call { callee := .builtin .append, args := #[s, x], argTypes := #[t, t] })
    (base : Nat) (e : TypeId) (z : Value) (bytes : Nat) (ht : P.underlying t = some (.slice e)) (hi : (P.info? e).map (fun i => (i.zero, i.size, i.bytes)) = some (some z, 1, bytes)) (hzs : z.cells.size = 1)
    (v : Value) (n : Nat) (xs : List Value) (u : Value) (hs : a.eval s = v) (hown : w.ownsRow base e 1 v n xs)
    (hx : a.eval x = .slice (some ⟨g, 0, none⟩) 1 1) (h1 : u.oneCell' = true)
    (h63 : n + 1 ≤ maxLen) (hbytes : (n + 1) * bytes ≤ 140737488355328) (hbase : base ≤ w.heap.size)
    (h : ∀ v' w', w'.ownsRow base e 1 v' (n + 1) (xs ++ [u]) → Below base w w' → wpList P ops Q rest (a.put o.dst v') w') : wpList P ops Q (o :: rest) a (w.alloc (.cells #[u] e)) := by
  subst hg
  exact wpList_app1 hgd s x t ho base e z bytes ht hi hzs v n xs u hs hown hx h1 h63 hbytes hbase h

set_option maxRecDepth 100000 in
set_option maxHeartbeats 2000000 in
theorem bodies_any (nv mv pv : Value) (ms : List Mo) (ps : List Pr) (w : World) (hM : MosAt w mv ms) (hP : PrsAt w pv ps) (hl : (bodiesL ms ps).length ≤ 1048576) (hml : ms.length ≤ 1048576) (hpl : ps.length ≤ 1048576) (hel : ∀ m ∈ ms, m.ents.length ≤ 1048576) :
    Calls Tryz.prog 89 #[.agg #[nv, mv, pv]] w fun e w' => ∃ v, e = .returned v ∧ w'.ownsRow (w.heap.size + 1) 3 1 v (bodiesL ms ps).length ((bodiesL ms ps).map I64) ∧ Below w.heap.size w w' := by
  have hb1 : Below w.heap.size w (w.alloc (.cells #[nv, mv, pv] 33)) := (Below.refl _ _).alloc (Nat.le_refl _) _
  have HM := hide (hM.stays hb1)
  have HP := hide (hP.stays hb1)
  have HX := hide (Boxed.made w nv mv pv 33)
  have HB := hide hb1
  have HS : Hid ((w.alloc (.cells #[nv, mv, pv] 33)).heap.size = w.heap.size + 1) := by show _ = _; simp
  clear hb1
  obtain ⟨ao, c, rfl, _⟩ := hM
  obtain ⟨bo, d, rfl, _⟩ := hP
  go_enter Tryz.func89, Tryz.ntmps89
  go_wp2
  obtain ⟨W1, hW⟩ : ∃ W1, w.alloc (.cells #[nv, .slice ao ms.length c, .slice bo ps.length d] 33) = W1 := ⟨_, rfl⟩
  rw [hW] at HM HP HX HB HS ⊢
  clear hW
  obtain ⟨n, en⟩ : ∃ n, ms.length = n := ⟨_, rfl⟩
  have EN := hide en
  obtain ⟨q, eq⟩ : ∃ q, ps.length = q := ⟨_, rfl⟩
  have EQ := hide eq
  rw [en] at HM
  rw [eq] at HP
  rw [en, eq] at HX ⊢
  rw [en] at hml
  rw [eq] at hpl
  clear en eq
  go_loopw [3, 14] (BodR w W1 ms) (fun _ iv _ => n - (intOf iv).toNat)
  case atStart => exact ⟨0, by omega, rfl, by
    have := ownsRow_empty W1 (w.heap.size + 1) 3 (by rw [HS.out]; exact Nat.le_refl _)
    rw [HS.out] at this
    exact this, (Below.refl _ _).alloc (Nat.le_refl _) _⟩
  case round =>
    obtain ⟨i, hi, rfl, HO, HB2⟩ := hrel
    obtain ⟨c0, c1, c2, _⟩ := HX.out.stays HB2.out
    rw [EN.out] at hi
    by_cases hlt : i < n
    · have hlt' : (i : Int) < (n : Int) := by omega
      have hi0 : (0 : Int) ≤ (i : Int) := by omega
      have hix : i < ms.length := by rw [EN.out]; exact hlt
      have HEL := hide (hel _ (List.getElem_mem hix))
      have HNX := hide (bodA_next hix)
      obtain ⟨ao', cc, e5, hc⟩ := HM.out
      injection e5 with e6 e7 e8
      subst e6
      obtain ⟨a, vv, qv, ev, rfl, hab, hcell⟩ := hc i hix
      have HE := hide hcell.ents
      have hcell2 := hcell.stays HB2.out (by rw [block_add]; exact hab)
      obtain ⟨p, hpa⟩ : ∃ p, a.add (i * 4) = p := ⟨_, rfl⟩
      rw [hpa] at hcell2
      obtain ⟨x, ex⟩ : ∃ x, ms[i] = x := ⟨_, rfl⟩
      rw [ex] at HEL HNX hcell2 HE
      obtain ⟨d0, d1, d2, d3, hv1, hv2, hv3⟩ := hcell2
      obtain ⟨vo, vc, rfl, _⟩ := hv1
      obtain ⟨qo, qc, rfl, _⟩ := hv2
      obtain ⟨eo, ec, rfl, _⟩ := hv3
      clear hcell
      clear ex hc e7 e8
      obtain ⟨m, em⟩ : ∃ m, x.ents.length = m := ⟨_, rfl⟩
      have EM := hide em
      rw [em] at d3 HE
      have hm : m ≤ 1048576 := by have := HEL.out; omega
      have hb3 : Below wr.heap.size wr (wr.alloc (.cells #[.string x.name, .slice vo x.vars.length vc, .slice qo x.queues.length qc, .slice eo m ec] 76)) := (Below.refl _ _).alloc (Nat.le_refl _) _
      have HO3 := hide (HO.out.alloc (.cells #[.string x.name, .slice vo x.vars.length vc, .slice qo x.queues.length qc, .slice eo m ec] 76))
      have HB3 := hide (HB2.out.trans (hb3.mono HB2.out.size))
      clear em hb3
      go_wp2
      obtain ⟨W3, hW3⟩ : ∃ W3, wr.alloc (.cells #[.string x.name, .slice vo x.vars.length vc, .slice qo x.queues.length qc, .slice eo m ec] 76) = W3 := ⟨_, rfl⟩
      rw [hW3] at HO3 HB3 ⊢
      have HZ3 : Hid (W3.heap.size = wr.heap.size + 1) := by show _ = _; rw [← hW3]; simp
      clear hW3
      go_loopw [3, 21] (BodI w W1 (bodA ms i) x.ents) (fun _ iv _ => m - (intOf iv).toNat)
      case atStart => exact ⟨0, bodA ms i, by omega, rfl, by simp, HO3.out, HB3.out⟩
      case round =>
        obtain ⟨j, l', hj, rfl, el, HO4, HB4⟩ := hrel
        rw [EM.out] at hj
        have EL := hide el
        clear el
        by_cases hlt2 : j < m
        · have hlt2' : (j : Int) < (m : Int) := by omega
          have hj0 : (0 : Int) ≤ (j : Int) := by omega
          have hjx : j < x.ents.length := by rw [EM.out]; exact hlt2
          obtain ⟨eo', ec', e5, hec⟩ := HE.out.stays HB4.out
          injection e5 with e6 e7 e8
          subst e6
          obtain ⟨b, rfl, hbb, hy⟩ := hec j hjx
          obtain ⟨r, hra⟩ : ∃ r, b.add (j * 3) = r := ⟨_, rfl⟩
          rw [hra] at hy
          have EY : Hid (l' ++ [x.ents[j].body] = bodA ms i ++ (x.ents.take (j + 1)).map En.body) := by
            show _ = _
            rw [EL.out, List.take_add_one, List.getElem?_eq_getElem hjx, List.map_append, ← List.append_assoc]
            rfl
          obtain ⟨y, ey⟩ : ∃ y, x.ents[j] = y := ⟨_, rfl⟩
          rw [ey] at hy EY
          have HLN : Hid (l'.length + 1 ≤ 1048576) := by
            show _ ≤ _
            have h1 : (l' ++ [y.body]).length ≤ (bodA ms (i + 1)).length := by rw [EY.out, HNX.out]; simp; omega
            have h2 := bodA_le ms ps (i + 1)
            simp at h1
            omega
          obtain ⟨y0, y1, y2⟩ := hy
          clear hec ey e7 e8
          have HOA := hide (HO4.out.alloc (.cells #[.string y.name, .string y.param, .int .i64 y.body] 99))
          have HBA : Hid (Below W1.heap.size W1 (wr.alloc (.cells #[.string y.name, .string y.param, .int .i64 y.body] 99))) := HB4.out.alloc HB4.out.size _
          have hwz : w.heap.size + 1 ≤ (wr.alloc (.cells #[.string y.name, .string y.param, .int .i64 y.body] 99)).heap.size := by rw [← HS.out]; exact HBA.out.size
          go_wp2_with (at_builtin; refine wpList_app1g (g := wr.heap.size + 1) (by simp) rfl (.tmp 25) (.tmp 28) 41 rfl (w.heap.size + 1) 3 (.int .i64 0) 8 Tryz.underlying41 Tryz.infoInt rfl _ l'.length _ _ rfl HOA.out rfl rfl (by have := HLN.out; unfold maxLen; omega) (by have := HLN.out; omega) hwz ?_)
          intro v' w4 hown4 hb4
          have R : BodI w W1 (bodA ms i) x.ents v' (.int .i64 ((j : Int) + 1)) w4 := ⟨j + 1, l' ++ [y.body], by rw [EM.out]; omega, rfl, EY.out, hide (by simpa using hown4), HBA.out.trans (by rw [HS.out]; exact hb4)⟩
          clear hown4 hb4
          go_wp2
          go_roundw
          case rel => exact R
          case measure => simp [intOf]; omega
        · have hlt2' : ¬ (j : Int) < (m : Int) := by omega
          have EL2 : Hid (l' = bodA ms (i + 1)) := by
            show _ = _
            rw [EL.out, HNX.out, List.take_of_length_le (by rw [EM.out]; omega)]
          go_wp2
          go_roundw
          case rel => exact ⟨i + 1, by rw [EN.out]; omega, by go_num, by rw [← EL2.out]; exact HO4.out, HB4.out⟩
          case measure => simp [intOf]; omega
    · have hlt' : ¬ (i : Int) < (n : Int) := by omega
      have e0 : bodA ms i = bodC ms ps 0 := by
        have : i = ms.length := by rw [EN.out]; omega
        rw [this, bodC]; simp
      have HO1 := HO
      rw [e0] at HO1
      clear e0
      go_wp2
      go_loopw [3, 35] (BodP w W1 ms ps) (fun _ iv _ => q - (intOf iv).toNat)
      case atStart => exact ⟨0, by omega, rfl, HO1.out, HB2.out⟩
      case round =>
        clear c0 c1 c2
        obtain ⟨i, hi, rfl, HO3, HB3⟩ := hrel
        rw [EQ.out] at hi
        by_cases hlt : i < q
        · have hlt' : (i : Int) < (q : Int) := by omega
          have hi0 : (0 : Int) ≤ (i : Int) := by omega
          have hix : i < ps.length := by rw [EQ.out]; exact hlt
          have HNX := hide (bodC_next (ms := ms) hix)
          obtain ⟨bo', cc, e5, hc⟩ := HP.out.stays HB3.out
          injection e5 with e6 e7 e8
          subst e6
          obtain ⟨a, uv, vv, rfl, hab, hcell⟩ := hc i hix
          obtain ⟨p, hpa⟩ : ∃ p, a.add (i * 4) = p := ⟨_, rfl⟩
          rw [hpa] at hcell
          obtain ⟨y, ey⟩ : ∃ y, ps[i] = y := ⟨_, rfl⟩
          rw [ey] at hcell HNX
          obtain ⟨d0, d1, d2, d3, hv1, hv2⟩ := hcell
          obtain ⟨uo, uc, rfl, _⟩ := hv1
          obtain ⟨vo, vc, rfl, _⟩ := hv2
          clear hc e7 e8 ey
          have HLN : Hid ((bodC ms ps i).length + 1 ≤ 1048576) := by
            show _ ≤ _
            have h2 : (bodC ms ps (i + 1)).length ≤ (bodiesL ms ps).length := by
              rw [← bodC_all]; simp [bodC]; omega
            rw [HNX.out] at h2
            simp at h2
            omega
          have HOA := hide (HO3.out.alloc (.cells #[.string y.name, .slice uo y.uses.length uc, .slice vo y.vars.length vc, .int .i64 y.body] 49))
          have HBA : Hid (Below W1.heap.size W1 (wr.alloc (.cells #[.string y.name, .slice uo y.uses.length uc, .slice vo y.vars.length vc, .int .i64 y.body] 49))) := HB3.out.alloc HB3.out.size _
          have hwz : w.heap.size + 1 ≤ (wr.alloc (.cells #[.string y.name, .slice uo y.uses.length uc, .slice vo y.vars.length vc, .int .i64 y.body] 49)).heap.size := by rw [← HS.out]; exact HBA.out.size
          go_wp2_with (at_builtin; refine wpList_app1g (g := wr.heap.size + 1) (by simp) rfl (.tmp 39) (.tmp 42) 41 rfl (w.heap.size + 1) 3 (.int .i64 0) 8 Tryz.underlying41 Tryz.infoInt rfl _ (bodC ms ps i).length _ _ rfl HOA.out rfl rfl (by have := HLN.out; unfold maxLen; omega) (by have := HLN.out; omega) hwz ?_)
          intro v' w4 hown4 hb4
          have R : BodP w W1 ms ps v' (.int .i64 ((i : Int) + 1)) w4 := ⟨i + 1, by rw [EQ.out]; omega, rfl, hide (by rw [HNX.out]; simpa using hown4), HBA.out.trans (by rw [HS.out]; exact hb4)⟩
          clear hown4 hb4
          go_wp2
          go_roundw
          case rel => exact R
          case measure => simp [intOf]; omega
        · have hlt' : ¬ (i : Int) < (q : Int) := by omega
          have ei : i = ps.length := by rw [EQ.out]; omega
          have HF : Hid (bodC ms ps i = bodiesL ms ps) := by show _ = _; rw [ei, bodC_all]
          rw [HF.out] at HO3
          clear ei
          go_wp2
          go_ret
          exact ⟨_, rfl, HO3.out, HB.out.trans (HB3.out.mono HB.out.size)⟩
end Go.Proofs.YtpdpmnkonkpheaaGreat

namespace Go.Proofs.YtpdpmnkonkpheaaGreat
open Go.RowKit

/-- How often each of the first n places stands in a list. -/
def cnt (n : Nat) (u : List Int) : List Int := (List.range n).map fun (j : Nat) => ((u.count (j : Int) : Nat) : Int)
theorem cnt_len (n : Nat) (u : List Int) : (cnt n u).length = n := by simp [cnt]
theorem cnt_at {n : Nat} (u : List Int) {j : Nat} (h : j < n) : (cnt n u).getD j 0 = ((u.count (j : Int) : Nat) : Int) := by
  simp [cnt, List.getD_eq_getElem?_getD, h]
theorem cnt_step {n : Nat} (u : List Int) {y : Nat} (h : y < n) : (cnt n u).set y ((cnt n u).getD y 0 + 1) = cnt n (u ++ [(y : Int)]) := by
  apply List.ext_getElem?
  intro j
  by_cases hj : j < n
  · by_cases hy : y = j
    · subst hy
      rw [List.getElem?_set_self (by rw [cnt_len]; exact h), cnt_at u h]
      simp [cnt, h, List.count_append]
    · rw [List.getElem?_set_ne hy]
      have : ¬ ((y : Int) = (j : Int)) := by omega
      simp [cnt, hj, List.count_append, List.count_singleton, this]
  · rw [List.getElem?_eq_none (by rw [List.length_set, cnt_len]; omega), List.getElem?_eq_none (by rw [cnt_len]; omega)]
theorem cnt_skip {n : Nat} (u : List Int) {y : Int} (h : ¬ (0 ≤ y ∧ y < (n : Int))) : cnt n (u ++ [y]) = cnt n u := by
  unfold cnt
  refine List.map_congr_left fun j hj => ?_
  have hj2 := List.mem_range.1 hj
  have : ¬ (y = (j : Int)) := by omega
  simp [List.count_append, this]
theorem cnt_nil (n : Nat) : cnt n [] = List.replicate n 0 := by
  unfold cnt
  apply List.ext_getElem?
  intro j
  by_cases hj : j < n
  · simp [hj]
  · simp [hj]
theorem cnt_le {n : Nat} (u : List Int) {j : Nat} (h : j < n) : 0 ≤ (cnt n u).getD j 0 ∧ (cnt n u).getD j 0 ≤ u.length := by
  rw [cnt_at u h]
  have := List.count_le_length (a := (j : Int)) (l := u)
  omega
/-- All kids, node by node. -/
def allKids (ns : List Nd) : List Int := ns.flatMap Nd.kids
theorem allKids_take {ns : List Nd} {k : Nat} (h : k < ns.length) : allKids (ns.take (k + 1)) = allKids (ns.take k) ++ ns[k].kids := by
  rw [List.take_succ_eq_append_getElem h, allKids, allKids, List.flatMap_append]
  simp
theorem allKids_len_take (ns : List Nd) (k : Nat) : (allKids (ns.take k)).length ≤ (allKids ns).length := by
  have : allKids ns = allKids (ns.take k) ++ allKids (ns.drop k) := by
    rw [allKids, allKids, allKids, ← List.flatMap_append, List.take_append_drop]
  rw [this, List.length_append]
  omega
/-- Is each node the kid or the body of just one? -/
def onceB (n : Nat) (u : List Int) : Bool := (cnt n u).all (fun x => decide (x = 1))

/-- A row of counts that is owned. -/
theorem ownsCnt_cell {w : World} {base n : Nat} {g cap : Nat} {u : List Int} (h : w.ownsRow base 3 1 (.slice (some ⟨g, 0, none⟩) n cap) n ((cnt n u).map I64)) {j : Nat} (hj : j < n) : w.cell? ⟨g, j, none⟩ = some (.int .i64 ((cnt n u).getD j 0)) ∧ w.frozen? ⟨g, j, none⟩ = false := by
  refine ⟨?_, h.frozenAt j⟩
  rw [h.cellAt j (by omega), List.getElem?_map, List.getD_eq_getElem?_getD, List.getElem?_eq_getElem (by rw [cnt_len]; exact hj)]
  rfl
theorem ownsCnt_step {w : World} {base n : Nat} {g cap : Nat} {u : List Int} (h : w.ownsRow base 3 1 (.slice (some ⟨g, 0, none⟩) n cap) n ((cnt n u).map I64)) {y : Nat} (hy : y < n) :
    (w.setCell ⟨g, y, none⟩ (.int .i64 ((cnt n u).getD y 0 + 1))).ownsRow base 3 1 (.slice (some ⟨g, 0, none⟩) n cap) n ((cnt n (u ++ [(y : Int)])).map I64) := by
  have := (h.stored y (.int .i64 ((cnt n u).getD y 0 + 1))).1
  rw [← cnt_step u hy, List.map_set]
  exact this
end Go.Proofs.YtpdpmnkonkpheaaGreat

namespace Go.Proofs.YtpdpmnkonkpheaaGreat
open Go.RowKit

/-- While places are counted: the row of counts, what was there, a row of places beside it. -/
structure CntS (W1 : World) (n : Nat) (bv : Value) (bs u : List Int) (wr : World) : Prop where
  own : wr.ownsRow W1.heap.size 3 1 (.slice (some ⟨W1.heap.size, 0, none⟩) n n) n ((cnt n u).map I64)
  bel : Below W1.heap.size W1 wr
  row : IntsIn (W1.heap.size + 1) wr bv bs
theorem CntS.step {W1 : World} {n : Nat} {bv : Value} {bs u : List Int} {wr : World} (h : CntS W1 n bv bs u wr) {y : Nat} (hy : y < n) : CntS W1 n bv bs (u ++ [(y : Int)]) (wr.setCell ⟨W1.heap.size, y, none⟩ (.int .i64 ((cnt n u).getD y 0 + 1))) :=
  ⟨ownsCnt_step h.own hy, h.bel.setCell (Nat.le_refl _) _, h.row.kept (KeptFrom.setCell (Nat.lt_succ_self _) _ _ _)⟩
theorem CntS.drewN {W1 : World} {n : Nat} {bv : Value} {bs u : List Int} {wr : World} (h : CntS W1 n bv bs u wr) (q : Nat) : CntS W1 n bv bs u (wr.drewN q) :=
  ⟨h.own, below_drewN h.bel q, h.row.kept (KeptFrom.below (below_drewN (Below.refl _ _) q))⟩
theorem CntS.stays {W1 : World} {n : Nat} {bv : Value} {bs u : List Int} {wr w' : World} (h : CntS W1 n bv bs u wr) (hb : Below wr.heap.size wr w') : CntS W1 n bv bs u w' :=
  ⟨ownsInts_stays h.own hb, h.bel.trans (hb.mono h.bel.size), h.row.kept (KeptFrom.below hb)⟩
theorem flat_one (n : Nat) : (List.replicate n [Value.int .i64 0]).flatten = List.replicate n (I64 0) := by
  induction n with
  | zero => rfl
  | succ m ih => rw [List.replicate_succ, List.flatten_cons, ih]; rfl
def UsA (W1 : World) (n : Nat) (bv : Value) (bs : List Int) (iv : Value) (wr : World) : Prop := ∃ i : Nat, i ≤ bs.length ∧ iv = .int .i64 i ∧ Hid (CntS W1 n bv bs (bs.take i) wr)
def UsB (W1 : World) (ns : List Nd) (bv : Value) (bs : List Int) (iv : Value) (wr : World) : Prop := ∃ k : Nat, k ≤ ns.length ∧ iv = .int .i64 k ∧ Hid (CntS W1 ns.length bv bs (bs ++ allKids (ns.take k)) wr)
def UsC (W1 : World) (n : Nat) (bv : Value) (bs u ks : List Int) (iv : Value) (wr : World) : Prop := ∃ i : Nat, i ≤ ks.length ∧ iv = .int .i64 i ∧ Hid (CntS W1 n bv bs (u ++ ks.take i) wr)

set_option maxRecDepth 100000 in
set_option maxHeartbeats 2000000 in
theorem l05Used_any (nv mv pv : Value) (ns : List Nd) (ms : List Mo) (ps : List Pr) (w : World) (hN : NdsAt w nv ns) (hM : MosAt w mv ms) (hP : PrsAt w pv ps) (hl : ns.length ≤ 1048576) (hbl : (bodiesL ms ps).length ≤ 1048576) (hml : ms.length ≤ 1048576) (hpl : ps.length ≤ 1048576) (hel : ∀ m ∈ ms, m.ents.length ≤ 1048576)
    (hkl : (allKids ns).length ≤ 1048576) (hkx : ∀ x ∈ ns, x.kids.length ≤ 1048576) (hK : ∀ x ∈ ns, ∀ y ∈ x.kids, 0 ≤ y ∧ y < (ns.length : Int)) :
    Calls Tryz.prog 54 #[.agg #[nv, mv, pv]] w fun e w' => ∃ v, e = .returned v ∧ w'.ownsRow (w.heap.size + 1) 3 1 v ns.length ((cnt ns.length (bodiesL ms ps ++ allKids ns)).map I64) ∧ Below w.heap.size w w' := by
  have hb1 : Below w.heap.size w (w.alloc (.cells #[nv, mv, pv] 33)) := (Below.refl _ _).alloc (Nat.le_refl _) _
  have HN := hide (hN.stays hb1)
  have HM := hide (hM.stays hb1)
  have HP := hide (hP.stays hb1)
  have HX := hide (Boxed.made w nv mv pv 33)
  have HB := hide hb1
  have HS : Hid ((w.alloc (.cells #[nv, mv, pv] 33)).heap.size = w.heap.size + 1) := by show _ = _; simp
  have CB := fun w h1 h2 => hide (l05Bodies_any nv mv pv ms ps w h1 h2 hbl hml hpl hel)
  clear hb1 hel hml hpl
  obtain ⟨ao, c, rfl, _⟩ := hN
  obtain ⟨mo, mc, rfl, _⟩ := hM
  obtain ⟨po, pc, rfl, _⟩ := hP
  obtain ⟨n, en⟩ : ∃ n, ns.length = n := ⟨_, rfl⟩
  have EN := hide en
  have HKX := hide hkx
  have HK := hide hK
  have HKL := hide hkl
  simp only [en] at HN HM HP HX HB HS CB hl HK ⊢
  clear en hkx hK hkl
  obtain ⟨bs, ebs⟩ : ∃ bs, bodiesL ms ps = bs := ⟨_, rfl⟩
  simp only [ebs] at CB hbl ⊢
  clear ebs
  obtain ⟨W1, hW⟩ : ∃ W1, w.alloc (.cells #[.slice ao n c, .slice mo ms.length mc, .slice po ps.length pc] 33) = W1 := ⟨_, rfl⟩
  obtain ⟨i0, hi, hz0, hz1, hz2⟩ := info_parts (Tryz.infoInt)
  obtain ⟨wm, hmk, hown, hgr⟩ := run_make_full (P := Tryz.prog) W1 W1.heap.size 41 3 i0 (.int .i64 0) 1 Tryz.underlying41 hi hz0 hz1 .i64 .i64 n (by rw [hz2]; omega) (by unfold maxLen; omega) (Nat.le_refl _)
  rw [hW] at HN HM HP HX HB HS
  have OW : Hid (wm.ownsRow W1.heap.size 3 1 (.slice (some ⟨W1.heap.size, 0, none⟩) n n) n ((cnt n []).map I64)) := by
    have e := made_flat [.int .i64 0] (by decide) n
    simp only [List.length_singleton] at e
    have e2 : (cnt n []).map I64 = (List.replicate n [Value.int .i64 0]).flatten := by
      rw [cnt_nil, List.map_replicate]
      exact (flat_one n).symm
    rw [e2, ← e]
    exact hown
  have GB : Hid (Below W1.heap.size W1 wm) := (Below.refl _ _).grown hgr (Nat.le_refl _) (fun k hk => by cases hk)
  rw [HS.out, ← hW] at hmk
  have HWW := hide hW
  clear hown hgr hi hz0 hz1 hz2 hW
  go_enter Tryz.func54, Tryz.ntmps54
  obtain ⟨c0, c1, c2, hlt0⟩ := HX.out.stays GB.out
  go_wp2_with fail
  refine (unhide (CB _ (HM.out.stays GB.out) (HP.out.stays GB.out))).mono ?_
  rintro e w2 ⟨bv, rfl, hown2, hb2⟩
  have ZM : Hid (W1.heap.size < wm.heap.size) := (OW.out.lt _ rfl).2
  have HC : Hid (CntS W1 n bv bs [] w2) := ⟨ownsInts_stays OW.out hb2, GB.out.trans (hb2.mono GB.out.size), (CellsIn.own hown2).mono (by have := ZM.out; omega)⟩
  obtain ⟨bo, bn, bc, ebv⟩ : ∃ bo bn bc, bv = .slice bo bn bc := by
    obtain ⟨o, c, e, _⟩ := HC.out.row
    exact ⟨_, _, _, e⟩
  have hbn : bn = bs.length := by
    obtain ⟨o, c, e, _⟩ := HC.out.row
    rw [ebv] at e
    injection e with _ e _
    rw [e, List.length_map]
  subst ebv
  subst hbn
  clear hb2 hown2 c0 c1 c2 hlt0 CB OW hmk
  rw [← HS.out]
  go_wp2
  obtain ⟨m, em⟩ : ∃ m, bs.length = m := ⟨_, rfl⟩
  have EM := hide em
  rw [em] at HC hbl ⊢
  clear em
  go_loopw [5] (UsA W1 n (.slice bo m bc) bs) (fun iv _ => m - (intOf iv).toNat)
  case atStart => exact ⟨0, by omega, rfl, HC.out⟩
  case round =>
    obtain ⟨i, hi, rfl, HF⟩ := hrel
    rw [EM.out] at hi
    obtain ⟨c0, c1, c2, _⟩ := HX.out.stays HF.out.bel
    by_cases hlt : i < m
    · have hlt' : (i : Int) < (m : Int) := by omega
      have hi0 : (0 : Int) ≤ (i : Int) := by omega
      have hix : i < bs.length := by rw [EM.out]; exact hlt
      obtain ⟨bo', bc', e1, hc1⟩ := HF.out.row.at
      injection e1 with e2 e3 e4
      subst e2
      obtain ⟨b, rfl, _, hx⟩ := hc1 i hix
      have HT : Hid (bs.take (i + 1) = bs.take i ++ [bs[i]]) := List.take_succ_eq_append_getElem hix
      obtain ⟨y, ey⟩ : ∃ y, bs[i] = y := ⟨_, rfl⟩
      rw [ey] at hx HT
      clear ey hc1 e3 e4
      have CI := fun w => hide (l01In_gen y 0 ((n : Int) - 1) w)
      have hwr : IntKind.i64.wrap ((n : Int) - 1) = (n : Int) - 1 := IntWalk.i64_in _ (by omega)
      cases hin : inZ 0 ((n : Int) - 1) y with
      | false =>
        have hno := inZ_no.1 hin
        have HE : Hid (cnt n (bs.take (i + 1)) = cnt n (bs.take i)) := by show _ = _; rw [HT.out, cnt_skip _ (by omega)]
        rw [hin] at CI
        clear hin hno
        go_wp2
        go_region_held3 (fun z => z.cell? (b.add i) = some (.int .i64 y) ∧ z.cell? ⟨w.heap.size, 0, none⟩ = some (.slice ao n c)) (go_keep) ((go_at_call 31; refine (unhide (CI _)).mono ?_; rintro e w3 ⟨rfl, rfl⟩))
        all_goals go_wp2
        all_goals go_roundw
        case rel => exact ⟨i + 1, by rw [EM.out]; omega, by go_num, by
          have h := HF.out.stays (Below.refl _ _).drew
          exact ⟨by rw [HE.out]; exact h.own, h.bel, h.row⟩⟩
        case measure => simp [intOf]; omega
      | true =>
        obtain ⟨hy0, hy1⟩ := inZ_yes.1 hin
        obtain ⟨t, ht⟩ : ∃ t : Nat, y = (t : Int) := ⟨y.toNat, by omega⟩
        subst ht
        rw [hin] at CI
        have htn : t < n := by omega
        have htn' : (t : Int) < (n : Int) := by omega
        have ht0 : (0 : Int) ≤ (t : Int) := by omega
        obtain ⟨k0, f0⟩ := ownsCnt_cell HF.out.own htn
        have hle := cnt_le (n := n) (bs.take i) htn
        rw [List.length_take] at hle
        have HST := hide (HF.out.step htn)
        obtain ⟨q, eq⟩ : ∃ q, (cnt n (bs.take i)).getD t 0 = q := ⟨_, rfl⟩
        rw [eq] at k0 hle HST
        have hq0 : 0 ≤ q := hle.1
        have hq1 : q ≤ 1048576 := by omega
        clear hin eq hle
        go_wp2
        go_region_held3 (fun z => z.cell? (b.add i) = some (.int .i64 (t : Int)) ∧ z.cell? ⟨w.heap.size, 0, none⟩ = some (.slice ao n c)) (go_keep) ((go_at_call 31; refine (unhide (CI _)).mono ?_; rintro e w3 ⟨rfl, rfl⟩))
        all_goals go_wp2
        all_goals go_roundw
        case rel => exact ⟨i + 1, by rw [EM.out]; omega, by go_num, by rw [HT.out]; exact HST.out.stays (Below.refl _ _).drew⟩
        case measure => simp [intOf]; omega
    · have hlt' : ¬ (i : Int) < (m : Int) := by omega
      have HD : Hid (CntS W1 n (.slice bo m bc) bs (bs ++ allKids (ns.take 0)) wr) := by
        have h := HF.out
        rw [List.take_of_length_le (by rw [EM.out]; omega)] at h
        have e : bs ++ allKids (ns.take 0) = bs := by simp [allKids]
        rw [e]
        exact h
      clear HF c0 c1 c2
      go_wp2
      go_loopw [6] (fun iv wr => UsB W1 ns (.slice bo m bc) bs iv wr) (fun iv _ => n - (intOf iv).toNat)
      case atStart => exact ⟨0, by omega, rfl, by rw [EN.out]; exact HD.out⟩
      case round =>
        obtain ⟨k, hk, rfl, HF2⟩ := hrel
        rw [EN.out] at hk HF2
        obtain ⟨c0, c1, c2, _⟩ := HX.out.stays HF2.out.bel
        by_cases hltk : k < n
        · have hltk' : (k : Int) < (n : Int) := by omega
          have hk0 : (0 : Int) ≤ (k : Int) := by omega
          have hkx : k < ns.length := by rw [EN.out]; exact hltk
          have HKT := hide (allKids_take hkx)
          have HKK := hide (HK.out _ (List.getElem_mem hkx))
          have HKN := hide (HKX.out _ (List.getElem_mem hkx))
          have HLT : Hid (bs.length + (allKids (ns.take k)).length + ns[k].kids.length ≤ 2097152) := by
            have h1 := allKids_len_take ns (k + 1)
            rw [allKids_take hkx, List.length_append] at h1
            have h2 := HKL.out
            show _ ≤ _
            rw [EM.out]
            omega
          obtain ⟨x, ex⟩ : ∃ x, ns[k] = x := ⟨_, rfl⟩
          have EX := hide ex
          rw [ex] at HKT HKK HKN HLT
          obtain ⟨kl, ekl⟩ : ∃ kl, x.kids.length = kl := ⟨_, rfl⟩
          have EKL := hide ekl
          have hklb : kl ≤ 1048576 := by rw [← ekl]; exact HKN.out
          clear ex ekl
          go_wp2
          go_loopw [7] (fun iv wr => UsC W1 n (.slice bo m bc) bs (bs ++ allKids (ns.take k)) x.kids iv wr) (fun iv _ => kl - (intOf iv).toNat)
          case atStart => exact ⟨0, by omega, rfl, by rw [List.take_zero, List.append_nil]; exact HF2.out⟩
          case round =>
            clear c0 c1 c2
            obtain ⟨j, hj, rfl, HF3⟩ := hrel
            rw [EKL.out] at hj
            obtain ⟨c0, c1, c2, _⟩ := HX.out.stays HF3.out.bel
            obtain ⟨a', cc', p, kv, e5, hpa, hpb, hnode⟩ := (HN.out.stays HF3.out.bel).node k hkx
            injection e5 with e6 e7 e8
            subst e6
            have d5 := hnode.c5
            have hkr := hnode.kids
            rw [EX.out] at hkr
            obtain ⟨ko, kc, rfl, hkc⟩ := hkr
            rw [EKL.out] at d5
            clear hnode e7 e8
            by_cases hltj : j < kl
            · have hltj' : (j : Int) < (kl : Int) := by omega
              have hj0 : (0 : Int) ≤ (j : Int) := by omega
              have hjx : j < x.kids.length := by rw [EKL.out]; exact hltj
              obtain ⟨b, rfl, _, hy⟩ := hkc j hjx
              have HT : Hid (x.kids.take (j + 1) = x.kids.take j ++ [x.kids[j]]) := List.take_succ_eq_append_getElem hjx
              obtain ⟨hy0, hy1⟩ := HKK.out _ (List.getElem_mem hjx)
              obtain ⟨y, ey⟩ : ∃ y, x.kids[j] = y := ⟨_, rfl⟩
              rw [ey] at hy HT hy0 hy1
              obtain ⟨t, ht⟩ : ∃ t : Nat, y = (t : Int) := ⟨y.toNat, by omega⟩
              subst ht
              clear ey hkc
              have htn : t < n := by omega
              obtain ⟨k0, f0⟩ := ownsCnt_cell HF3.out.own htn
              have hle := cnt_le (n := n) (bs ++ allKids (ns.take k) ++ x.kids.take j) htn
              have HST := hide (HF3.out.step htn)
              obtain ⟨q, eq⟩ : ∃ q, (cnt n (bs ++ allKids (ns.take k) ++ x.kids.take j)).getD t 0 = q := ⟨_, rfl⟩
              rw [eq] at k0 hle HST
              have hq0 : 0 ≤ q := hle.1
              have hq1 : q ≤ 2097152 := by
                have h1 := hle.2
                have h2 := HLT.out
                rw [List.length_append, List.length_append, List.length_take] at h1
                omega
              clear eq hle
              go_wp2
              go_roundw
              case rel =>
                refine ⟨j + 1, ?_, by go_num, ?_⟩
                · rw [EKL.out]; omega
                · rw [HT.out, ← List.append_assoc]; exact HST.out
              case measure => simp [intOf]; omega
            · have hltj' : ¬ (j : Int) < (kl : Int) := by omega
              have HE : Hid (CntS W1 n (.slice bo m bc) bs (bs ++ allKids (ns.take (k + 1))) wr) := by
                have h := HF3.out
                rw [List.take_of_length_le (l := x.kids) (i := j) (by rw [EKL.out]; omega), List.append_assoc, ← HKT.out] at h
                exact h
              go_wp2
              go_roundw
              case rel => exact ⟨k + 1, by rw [EN.out]; omega, by go_num, by rw [EN.out]; exact HE.out⟩
              case measure => simp [intOf]; omega
        · have hltk' : ¬ (k : Int) < (n : Int) := by omega
          go_wp2
          go_ret
          refine ⟨_, rfl, ?_, HB.out.trans (HF2.out.bel.mono (by rw [HS.out]; omega))⟩
          have h := HF2.out.own
          rw [List.take_of_length_le (by rw [EN.out]; omega)] at h
          rw [HS.out] at h ⊢
          exact h
end Go.Proofs.YtpdpmnkonkpheaaGreat
