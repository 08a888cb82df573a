/-
  Walks: all names beside those of nodes, by the program.
-/
import Derived.Test.YtdfahpachbhglaaGreatDoorAppQ
import Derived.Test.YtdfahpachbhglaaGreatDoorTreeW
import Derived.Test.YtdfahpachbhglaaGreatDoorNameW
import Derived.Test.YtdfahpachbhglaaGreatDoorTreeM
import Derived.Test.YtdfahpachbhglaaGreatDoorImpD
namespace Go.Proofs.YtdfahpachbhglaaGreatDoor
open Go.RowKit

def entNames (x : En) : List ByteArray := [x.name, x.param]
def monNames (x : Mo) : List ByteArray := [x.name] ++ x.vars ++ x.queues ++ x.ents.flatMap entNames
def proNames (x : Pr) : List ByteArray := [x.name] ++ x.uses ++ x.vars
def namesL (ms : List Mo) (ps : List Pr) : List ByteArray := ms.flatMap monNames ++ ps.flatMap proNames
theorem flatMap_take {α β : Type} (f : α → List β) {xs : List α} {i : Nat} (h : i < xs.length) : (xs.take (i + 1)).flatMap f = (xs.take i).flatMap f ++ f xs[i] := by
  rw [List.take_succ_eq_append_getElem h, List.flatMap_append]
  simp
theorem flatMap_len_take {α β : Type} (f : α → List β) (xs : List α) (k : Nat) : ((xs.take k).flatMap f).length ≤ (xs.flatMap f).length := by
  have : xs.flatMap f = (xs.take k).flatMap f ++ (xs.drop k).flatMap f := by rw [← List.flatMap_append, List.take_append_drop]
  rw [this, List.length_append]
  omega
/-- A row of texts that is owned. -/
abbrev OwnS (base : Nat) (v : Value) (l : List ByteArray) (w : World) : Prop := w.ownsRow base 9 1 v l.length (l.map Value.string)
def NamR (base : Nat) (W1 : World) (n : Nat) (L : Nat → List ByteArray) (v iv : Value) (wr : World) : Prop :=
  ∃ i : Nat, i ≤ n ∧ iv = .int .i64 i ∧ Hid (OwnS base v (L i) wr) ∧ Hid (Below W1.heap.size W1 wr)
theorem OwnS.more {base : Nat} {v : Value} {l k : List ByteArray} {w : World} {m : Nat} (h : w.ownsRow base 9 1 v m (l.map Value.string ++ k.map Value.string)) : OwnS base v (l ++ k) w := by
  have e := h.1
  rw [← List.map_append] at h
  have : m = (l ++ k).length := by
    rw [← List.map_append, List.length_map] at e
    omega
  rw [this] at h
  exact h
def NamE (W : World) (N : List ByteArray) (iv : Value) (wr : World) : Prop :=
  ∃ i : Nat, i ≤ N.length ∧ iv = .int .i64 i ∧ Hid (Below W.heap.size W wr) ∧ Hid (∀ (j : Nat) (x : ByteArray), j < i → N[j]? = some x → nameB x = true)

set_option maxRecDepth 100000 in
set_option maxHeartbeats 4000000 in
theorem namesOk_any (nv mv pv : Value) (ms : List Mo) (ps : List Pr) (w : World) (hM : MosAt w mv ms) (hP : PrsAt w pv ps) (hml : ms.length ≤ 1048576) (hpl : ps.length ≤ 1048576) (hmi : ∀ m ∈ ms, MoIn m) (hpi : ∀ p ∈ ps, PrIn p) (hT : (namesL ms ps).length ≤ 4194304) :
    Calls Tryz.prog 39 #[.agg #[nv, mv, pv]] w fun e w' => e = .returned (.bool ((namesL ms ps).all nameB)) ∧ Below w.heap.size w w' := by
  have hb1 : Below w.heap.size w (w.alloc (.cells #[nv, mv, pv] 34)) := (Below.refl _ _).alloc (Nat.le_refl _) _
  have HM := hide (hM.stays hb1)
  have HP := hide (hP.stays hb1)
  have HX := hide (Boxed.made w nv mv pv 34)
  have HB := hide hb1
  have HS : Hid ((w.alloc (.cells #[nv, mv, pv] 34)).heap.size = w.heap.size + 1) := by show _ = _; simp
  have HMI := hide hmi
  have HPI := hide hpi
  have HT := hide hT
  clear hb1 hmi hpi hT
  obtain ⟨ao, c, rfl, _⟩ := hM
  obtain ⟨bo, d, rfl, _⟩ := hP
  go_enter Tryz.func39, Tryz.ntmps39
  go_wp2
  obtain ⟨W1, hW⟩ : ∃ W1, w.alloc (.cells #[nv, .slice ao ms.length c, .slice bo ps.length d] 34) = W1 := ⟨_, rfl⟩
  rw [hW] at HM HP HX HB HS ⊢
  clear hW
  obtain ⟨n, en⟩ : ∃ n, ms.length = n := ⟨_, rfl⟩
  have EN := hide en
  obtain ⟨q, eq⟩ : ∃ q, ps.length = q := ⟨_, rfl⟩
  have EQ := hide eq
  rw [en] at HM hml
  rw [eq] at HP hpl
  rw [en, eq] at HX ⊢
  clear en eq
  go_loopw [3, 16] (NamR (w.heap.size + 1) W1 n (fun i => (ms.take i).flatMap monNames)) (fun _ iv _ => n - (intOf iv).toNat)
  case atStart => exact ⟨0, by omega, rfl, by
    have := ownsRow_empty W1 (w.heap.size + 1) 9 (by rw [HS.out]; exact Nat.le_refl _)
    rw [HS.out] at this
    exact this, (Below.refl _ _).alloc (Nat.le_refl _) _⟩
  case round =>
    obtain ⟨i, hi, rfl, HO, HB2⟩ := hrel
    obtain ⟨c0, c1, c2, _⟩ := HX.out.stays HB2.out
    by_cases hlt : i < n
    · have hlt' : (i : Int) < (n : Int) := by omega
      have hi0 : (0 : Int) ≤ (i : Int) := by omega
      have hix : i < ms.length := by rw [EN.out]; exact hlt
      have HEL := hide (HMI.out _ (List.getElem_mem hix))
      have HNX := hide (flatMap_take monNames hix)
      have HLN : Hid (((ms.take i).flatMap monNames).length + (monNames ms[i]).length ≤ 4194304) := by
        have h1 := flatMap_len_take monNames ms (i + 1)
        rw [HNX.out, List.length_append] at h1
        have h2 := HT.out
        rw [namesL, List.length_append] at h2
        show _ ≤ _
        omega
      obtain ⟨ao', cc, e5, hc⟩ := HM.out
      injection e5 with e6 e7 e8
      subst e6
      obtain ⟨a, vv, qv, ev, rfl, hab, hcell⟩ := hc i hix
      have HV1 := hide hcell.vars
      have HV2 := hide hcell.queues
      have HV3 := hide hcell.ents
      have hcell2 := hcell.stays HB2.out (by rw [block_add]; exact hab)
      obtain ⟨p, hpa⟩ : ∃ p, a.add (i * 4) = p := ⟨_, rfl⟩
      rw [hpa] at hcell2
      obtain ⟨x, ex⟩ : ∃ x, ms[i] = x := ⟨_, rfl⟩
      rw [ex] at HEL HNX hcell2 HV1 HV2 HV3 HLN
      obtain ⟨d0, d1, d2, d3, hv1, hv2, hv3⟩ := hcell2
      obtain ⟨vo, vc, rfl, _⟩ := hv1
      obtain ⟨qo, qc, rfl, _⟩ := hv2
      obtain ⟨eo, ec, rfl, _⟩ := hv3
      clear ex hc e7 e8 hcell
      obtain ⟨L, eL⟩ : ∃ L, (ms.take i).flatMap monNames = L := ⟨_, rfl⟩
      have EL := hide eL
      dsimp only at HO
      rw [eL] at HO HNX HLN
      clear eL
      have HML : Hid (L.length + (1 + x.vars.length + x.queues.length + (x.ents.flatMap entNames).length) ≤ 4194304) := by
        have := HLN.out
        simp only [monNames, List.length_append, List.length_singleton] at this
        exact this
      clear HLN
      have HOA := hide (HO.out.alloc (.cells #[.string x.name, .slice vo x.vars.length vc, .slice qo x.queues.length qc, .slice eo x.ents.length ec] 45))
      have HBA : Hid (Below W1.heap.size W1 (wr.alloc (.cells #[.string x.name, .slice vo x.vars.length vc, .slice qo x.queues.length qc, .slice eo x.ents.length ec] 45))) := HB2.out.alloc HB2.out.size _
      have HMB := hide (Box.made wr #[.string x.name, .slice vo x.vars.length vc, .slice qo x.queues.length qc, .slice eo x.ents.length ec] 45)
      have hwz : w.heap.size + 1 ≤ (wr.alloc (.cells #[.string x.name, .slice vo x.vars.length vc, .slice qo x.queues.length qc, .slice eo x.ents.length ec] 45)).heap.size := by rw [← HS.out]; exact HBA.out.size
      go_wp2_with (at_builtin; refine wpList_app_new (g := wr.heap.size + 1) (by simp) rfl (.tmp 20) (.tmp 23) 42 rfl (w.heap.size + 1) 9 (.string ⟨#[]⟩) 16 Tryz.underlying42 Tryz.infoStr rfl _ L.length _ _ rfl HOA.out 1 rfl rfl (by intro u hu; simp at hu; subst hu; rfl) (by have := HML.out; unfold maxLen; omega) (by have := HML.out; omega) hwz ?_)
      intro v1 w1 hown1 hb1 hk1
      obtain ⟨L1, e1⟩ : ∃ L1, L ++ [x.name] = L1 := ⟨_, rfl⟩
      have E1 := hide e1
      have F1 : Hid (L1.length = L.length + 1) := by show _ = _; rw [← e1]; simp
      have O1 : Hid (OwnS (w.heap.size + 1) v1 L1 w1) := by rw [← e1]; exact OwnS.more (k := [x.name]) hown1
      clear e1
      have B1 : Hid (Below W1.heap.size W1 w1) := HBA.out.trans (by rw [HS.out]; exact hb1)
      have M1 := hide (hk1 _ _ _ (by decide) HMB.out)
      have p0 := Lib.cell_of_heap M1.out 0
      have p1 := Lib.cell_of_heap M1.out 1
      have p2 := Lib.cell_of_heap M1.out 2
      have p3 := Lib.cell_of_heap M1.out 3
      simp at p0 p1 p2 p3
      have hz1 : w.heap.size + 1 ≤ w1.heap.size := by rw [← HS.out]; exact B1.out.size
      clear hown1 hb1 hk1 HOA HBA HMB hwz
      go_wp2_with (at_builtin; refine wpList_app_strs rfl (.tmp 25) (.tmp 27) 42 rfl (w.heap.size + 1) 9 (.string ⟨#[]⟩) 16 Tryz.underlying42 Tryz.infoStr rfl _ _ _ rfl O1.out _ x.vars rfl (HV1.out.stays B1.out) (by have := HML.out; have := F1.out; unfold maxLen; omega) (by have := HML.out; have := F1.out; omega) hz1 ?_)
      intro v2 w2 hown2 hb2 hk2
      obtain ⟨L2, e2⟩ : ∃ L2, L1 ++ x.vars = L2 := ⟨_, rfl⟩
      have E2 := hide e2
      have F2 : Hid (L2.length = L1.length + x.vars.length) := by show _ = _; rw [← e2]; simp
      have O2 : Hid (OwnS (w.heap.size + 1) v2 L2 w2) := by rw [← e2]; exact OwnS.more hown2
      clear e2
      have B2 : Hid (Below W1.heap.size W1 w2) := B1.out.trans (by rw [HS.out]; exact hb2)
      have M2 := hide (hk2 _ _ _ (by decide) M1.out)
      clear p0 p1 p2 p3
      have p0 := Lib.cell_of_heap M2.out 0
      have p1 := Lib.cell_of_heap M2.out 1
      have p2 := Lib.cell_of_heap M2.out 2
      have p3 := Lib.cell_of_heap M2.out 3
      simp at p0 p1 p2 p3
      have hz2 : w.heap.size + 1 ≤ w2.heap.size := by rw [← HS.out]; exact B2.out.size
      clear hown2 hb2 hk2 M1 O1 B1 hz1
      go_wp2_with (at_builtin; refine wpList_app_strs rfl (.tmp 29) (.tmp 31) 42 rfl (w.heap.size + 1) 9 (.string ⟨#[]⟩) 16 Tryz.underlying42 Tryz.infoStr rfl _ _ _ rfl O2.out _ x.queues rfl (HV2.out.stays B2.out) (by have := HML.out; have := F1.out; have := F2.out; unfold maxLen; omega) (by have := HML.out; have := F1.out; have := F2.out; omega) hz2 ?_)
      intro v3 w3 hown3 hb3 hk3
      obtain ⟨L3, e3⟩ : ∃ L3, L2 ++ x.queues = L3 := ⟨_, rfl⟩
      have E3 : Hid (L3 = L ++ [x.name] ++ x.vars ++ x.queues) := by show _ = _; rw [← e3, ← E2.out, ← E1.out]
      have F3 : Hid (L3.length = L2.length + x.queues.length) := by show _ = _; rw [← e3]; simp
      have O3 : Hid (OwnS (w.heap.size + 1) v3 L3 w3) := by rw [← e3]; exact OwnS.more hown3
      clear e3
      have B3 : Hid (Below W1.heap.size W1 w3) := B2.out.trans (by rw [HS.out]; exact hb3)
      have M3 := hide (hk3 _ _ _ (by decide) M2.out)
      clear p0 p1 p2 p3
      have p0 := Lib.cell_of_heap M3.out 0
      have p1 := Lib.cell_of_heap M3.out 1
      have p2 := Lib.cell_of_heap M3.out 2
      have p3 := Lib.cell_of_heap M3.out 3
      simp at p0 p1 p2 p3
      clear hown3 hb3 hk3 M2 O2 B2 hz2
      obtain ⟨m, em⟩ : ∃ m, x.ents.length = m := ⟨_, rfl⟩
      have EM := hide em
      have hm : m ≤ 1048576 := by rw [← em]; exact HEL.out.len
      rw [em] at p3 HV3 ⊢
      clear em d0 d1 d2 d3
      go_wp2
      go_loopw [3, 36] (NamR (w.heap.size + 1) W1 m (fun j => L3 ++ (x.ents.take j).flatMap entNames)) (fun _ iv _ => m - (intOf iv).toNat)
      case atStart => exact ⟨0, by omega, rfl, by dsimp only; rw [List.take_zero, List.flatMap_nil, List.append_nil]; exact O3.out, B3.out⟩
      case round =>
        clear p0 p1 p2 p3 c0 c1 c2
        obtain ⟨j, hj, rfl, HO4, HB4⟩ := hrel
        dsimp only at HO4
        by_cases hlt2 : j < m
        · have hlt2' : (j : Int) < (m : Int) := by omega
          have hj0 : (0 : Int) ≤ (j : Int) := by omega
          have hjx : j < x.ents.length := by rw [EM.out]; exact hlt2
          obtain ⟨eo', ec', e5, hec⟩ := HV3.out.stays HB4.out
          injection e5 with e6 e7 e8
          subst e6
          obtain ⟨b, rfl, hbb, hy⟩ := hec j hjx
          obtain ⟨r, hra⟩ : ∃ r, b.add (j * 3) = r := ⟨_, rfl⟩
          rw [hra] at hy
          have HNE := hide (flatMap_take entNames hjx)
          have HLE : Hid (((x.ents.take j).flatMap entNames).length + 2 ≤ (x.ents.flatMap entNames).length) := by
            have h1 := flatMap_len_take entNames x.ents (j + 1)
            rw [HNE.out, List.length_append] at h1
            exact h1
          obtain ⟨y, ey⟩ : ∃ y, x.ents[j] = y := ⟨_, rfl⟩
          rw [ey] at hy HNE
          obtain ⟨y0, y1, y2⟩ := hy
          clear hec ey e7 e8
          obtain ⟨K, eK⟩ : ∃ K, (x.ents.take j).flatMap entNames = K := ⟨_, rfl⟩
          rw [eK] at HO4 HNE HLE
          clear eK
          obtain ⟨LK, eLK⟩ : ∃ LK, L3 ++ K = LK := ⟨_, rfl⟩
          have ELK := hide eLK
          have HLK : Hid ((L3 ++ K).length + 2 ≤ 4194304) := by
            have h1 := HML.out
            have h2 := HLE.out
            have h3 := F1.out
            have h4 := F2.out
            have h5 := F3.out
            show _ ≤ _
            rw [List.length_append]
            omega
          rw [eLK] at HO4 HLK
          clear eLK
          have HOA := hide (HO4.out.alloc (.cells #[.string y.name, .string y.param, .int .i64 y.body] 48))
          have HBA : Hid (Below W1.heap.size W1 (wr.alloc (.cells #[.string y.name, .string y.param, .int .i64 y.body] 48))) := HB4.out.alloc HB4.out.size _
          have hwz : w.heap.size + 1 ≤ (wr.alloc (.cells #[.string y.name, .string y.param, .int .i64 y.body] 48)).heap.size := by rw [← HS.out]; exact HBA.out.size
          go_wp2_with (at_builtin; refine wpList_app_new (g := wr.heap.size + 1) (by simp) rfl (.tmp 40) (.tmp 45) 42 rfl (w.heap.size + 1) 9 (.string ⟨#[]⟩) 16 Tryz.underlying42 Tryz.infoStr rfl _ _ _ _ rfl HOA.out 2 rfl rfl (by intro u hu; simp at hu; rcases hu with rfl | rfl <;> rfl) (by have := HLK.out; unfold maxLen; omega) (by have := HLK.out; omega) hwz ?_)
          intro v4 w4 hown4 hb4 hk4
          have R : NamR (w.heap.size + 1) W1 m (fun j => L3 ++ (x.ents.take j).flatMap entNames) v4 (.int .i64 ((j : Int) + 1)) w4 := ⟨j + 1, by omega, rfl, hide (by dsimp only; rw [HNE.out, ← List.append_assoc, ELK.out]; exact OwnS.more (k := [y.name, y.param]) hown4), HBA.out.trans (by rw [HS.out]; exact hb4)⟩
          clear hown4 hb4 hk4
          go_wp2
          go_roundw
          case rel => exact R
          case measure => simp [intOf]; omega
        · have hlt2' : ¬ (j : Int) < (m : Int) := by omega
          have EL2 : Hid (L3 ++ (x.ents.take j).flatMap entNames = (ms.take (i + 1)).flatMap monNames) := by
            show _ = _
            rw [HNX.out, List.take_of_length_le (by rw [EM.out]; omega), monNames, E3.out]
            simp only [List.append_assoc]
          rw [EL2.out] at HO4
          go_wp2
          go_roundw
          case rel => exact ⟨i + 1, by omega, by go_num, HO4.out, HB4.out⟩
          case measure => simp [intOf]; omega
    · have hlt' : ¬ (i : Int) < (n : Int) := by omega
      have e0 : (ms.take i).flatMap monNames = ms.flatMap monNames ++ (ps.take 0).flatMap proNames := by
        rw [List.take_of_length_le (by rw [EN.out]; omega)]; simp
      dsimp only at HO
      rw [e0] at HO
      clear e0
      obtain ⟨A, eA⟩ : ∃ A, ms.flatMap monNames = A := ⟨_, rfl⟩
      have HNL : Hid (namesL ms ps = A ++ ps.flatMap proNames) := by show _ = _; rw [namesL, eA]
      rw [eA] at HO
      clear eA
      go_wp2
      go_loopw [3, 52] (NamR (w.heap.size + 1) W1 q (fun k => A ++ (ps.take k).flatMap proNames)) (fun _ iv _ => q - (intOf iv).toNat)
      case atStart => exact ⟨0, by omega, rfl, HO.out, HB2.out⟩
      case round =>
        clear c0 c1 c2
        obtain ⟨k, hk, rfl, HO5, HB5⟩ := hrel
        dsimp only at HO5
        by_cases hltk : k < q
        · have hltk' : (k : Int) < (q : Int) := by omega
          have hk0 : (0 : Int) ≤ (k : Int) := by omega
          have hkx : k < ps.length := by rw [EQ.out]; exact hltk
          have HNX := hide (flatMap_take proNames hkx)
          have HML : Hid ((A ++ (ps.take k).flatMap proNames).length + (proNames ps[k]).length ≤ 4194304) := by
            have h1 := flatMap_len_take proNames ps (k + 1)
            rw [HNX.out, List.length_append] at h1
            have h2 := HT.out
            rw [HNL.out, List.length_append] at h2
            show _ ≤ _
            rw [List.length_append]
            omega
          obtain ⟨bo', cc, e5, hc⟩ := HP.out
          injection e5 with e6 e7 e8
          subst e6
          obtain ⟨a, uv, vv, rfl, hab, hcell⟩ := hc k hkx
          have HV1 := hide hcell.uses
          have HV2 := hide hcell.vars
          have hcell2 := hcell.stays HB5.out (by rw [block_add]; exact hab)
          obtain ⟨p, hpa⟩ : ∃ p, a.add (k * 4) = p := ⟨_, rfl⟩
          rw [hpa] at hcell2
          obtain ⟨x, ex⟩ : ∃ x, ps[k] = x := ⟨_, rfl⟩
          rw [ex] at HNX hcell2 HV1 HV2 HML
          obtain ⟨d0, d1, d2, d3, hv1, hv2⟩ := hcell2
          obtain ⟨uo, uc, rfl, _⟩ := hv1
          obtain ⟨vo, vc, rfl, _⟩ := hv2
          clear ex hc e7 e8 hcell
          obtain ⟨L, eL⟩ : ∃ L, A ++ (ps.take k).flatMap proNames = L := ⟨_, rfl⟩
          have EL2 : Hid (L ++ [x.name] ++ x.uses ++ x.vars = A ++ (ps.take (k + 1)).flatMap proNames) := by
            show _ = _
            rw [HNX.out, ← eL, proNames]
            simp only [List.append_assoc]
          rw [eL] at HO5 HML
          clear eL
          have HML2 : Hid (L.length + (1 + x.uses.length + x.vars.length) ≤ 4194304) := by
            have := HML.out
            simp only [proNames, List.length_append, List.length_singleton] at this
            exact this
          clear HML
          have HOA := hide (HO5.out.alloc (.cells #[.string x.name, .slice uo x.uses.length uc, .slice vo x.vars.length vc, .int .i64 x.body] 51))
          have HBA : Hid (Below W1.heap.size W1 (wr.alloc (.cells #[.string x.name, .slice uo x.uses.length uc, .slice vo x.vars.length vc, .int .i64 x.body] 51))) := HB5.out.alloc HB5.out.size _
          have HMB := hide (Box.made wr #[.string x.name, .slice uo x.uses.length uc, .slice vo x.vars.length vc, .int .i64 x.body] 51)
          have hwz : w.heap.size + 1 ≤ (wr.alloc (.cells #[.string x.name, .slice uo x.uses.length uc, .slice vo x.vars.length vc, .int .i64 x.body] 51)).heap.size := by rw [← HS.out]; exact HBA.out.size
          go_wp2_with (at_builtin; refine wpList_app_new (g := wr.heap.size + 1) (by simp) rfl (.tmp 56) (.tmp 59) 42 rfl (w.heap.size + 1) 9 (.string ⟨#[]⟩) 16 Tryz.underlying42 Tryz.infoStr rfl _ L.length _ _ rfl HOA.out 1 rfl rfl (by intro u hu; simp at hu; subst hu; rfl) (by have := HML2.out; unfold maxLen; omega) (by have := HML2.out; omega) hwz ?_)
          intro v1 w1 hown1 hb1 hk1
          obtain ⟨L1, e1⟩ : ∃ L1, L ++ [x.name] = L1 := ⟨_, rfl⟩
          have E1 := hide e1
          have F1 : Hid (L1.length = L.length + 1) := by show _ = _; rw [← e1]; simp
          have O1 : Hid (OwnS (w.heap.size + 1) v1 L1 w1) := by rw [← e1]; exact OwnS.more (k := [x.name]) hown1
          clear e1
          have B1 : Hid (Below W1.heap.size W1 w1) := HBA.out.trans (by rw [HS.out]; exact hb1)
          have M1 := hide (hk1 _ _ _ (by decide) HMB.out)
          have p0 := Lib.cell_of_heap M1.out 0
          have p1 := Lib.cell_of_heap M1.out 1
          have p2 := Lib.cell_of_heap M1.out 2
          have p3 := Lib.cell_of_heap M1.out 3
          simp at p0 p1 p2 p3
          have hz1 : w.heap.size + 1 ≤ w1.heap.size := by rw [← HS.out]; exact B1.out.size
          clear hown1 hb1 hk1 HOA HBA HMB hwz d0 d1 d2 d3
          go_wp2_with (at_builtin; refine wpList_app_strs rfl (.tmp 61) (.tmp 63) 42 rfl (w.heap.size + 1) 9 (.string ⟨#[]⟩) 16 Tryz.underlying42 Tryz.infoStr rfl _ _ _ rfl O1.out _ x.uses rfl (HV1.out.stays B1.out) (by have := HML2.out; have := F1.out; unfold maxLen; omega) (by have := HML2.out; have := F1.out; omega) hz1 ?_)
          intro v2 w2 hown2 hb2 hk2
          obtain ⟨L2, e2⟩ : ∃ L2, L1 ++ x.uses = L2 := ⟨_, rfl⟩
          have E2 := hide e2
          have F2 : Hid (L2.length = L1.length + x.uses.length) := by show _ = _; rw [← e2]; simp
          have O2 : Hid (OwnS (w.heap.size + 1) v2 L2 w2) := by rw [← e2]; exact OwnS.more hown2
          clear e2
          have B2 : Hid (Below W1.heap.size W1 w2) := B1.out.trans (by rw [HS.out]; exact hb2)
          have M2 := hide (hk2 _ _ _ (by decide) M1.out)
          clear p0 p1 p2 p3
          have p0 := Lib.cell_of_heap M2.out 0
          have p1 := Lib.cell_of_heap M2.out 1
          have p2 := Lib.cell_of_heap M2.out 2
          have p3 := Lib.cell_of_heap M2.out 3
          simp at p0 p1 p2 p3
          have hz2 : w.heap.size + 1 ≤ w2.heap.size := by rw [← HS.out]; exact B2.out.size
          clear hown2 hb2 hk2 M1 O1 B1 hz1
          go_wp2_with (at_builtin; refine wpList_app_strs rfl (.tmp 65) (.tmp 67) 42 rfl (w.heap.size + 1) 9 (.string ⟨#[]⟩) 16 Tryz.underlying42 Tryz.infoStr rfl _ _ _ rfl O2.out _ x.vars rfl (HV2.out.stays B2.out) (by have := HML2.out; have := F1.out; have := F2.out; unfold maxLen; omega) (by have := HML2.out; have := F1.out; have := F2.out; omega) hz2 ?_)
          intro v3 w3 hown3 hb3 hk3
          have R : NamR (w.heap.size + 1) W1 q (fun k => A ++ (ps.take k).flatMap proNames) v3 (.int .i64 ((k : Int) + 1)) w3 := ⟨k + 1, by omega, rfl, hide (by dsimp only; rw [← EL2.out, E1.out, E2.out]; exact OwnS.more hown3), B2.out.trans (by rw [HS.out]; exact hb3)⟩
          clear hown3 hb3 hk3
          go_wp2
          go_roundw
          case rel => exact R
          case measure => simp [intOf]; omega
        · have hltk' : ¬ (k : Int) < (q : Int) := by omega
          have e0 : A ++ (ps.take k).flatMap proNames = namesL ms ps := by
            rw [HNL.out, List.take_of_length_le (by rw [EQ.out]; omega)]
          rw [e0] at HO5
          clear e0
          have HSZ : Hid (∀ s ∈ namesL ms ps, s.size ≤ 1048576) := by
            intro s hs
            rw [namesL, List.mem_append, List.mem_flatMap, List.mem_flatMap] at hs
            rcases hs with ⟨x, hx, hs⟩ | ⟨x, hx, hs⟩
            · have h1 := HMI.out x hx
              simp only [monNames, List.mem_append, List.mem_flatMap, entNames, List.mem_cons, List.not_mem_nil, or_false] at hs
              rcases hs with ((rfl | hs) | hs) | ⟨e, he, rfl | rfl⟩
              · exact h1.name
              · exact h1.vars.2 s hs
              · exact h1.queues.2 s hs
              · exact (h1.ents e he).1
              · exact (h1.ents e he).2
            · have h1 := HPI.out x hx
              simp only [proNames, List.mem_append, List.mem_singleton] at hs
              rcases hs with (rfl | hs) | hs
              · exact h1.name
              · exact h1.uses.2 s hs
              · exact h1.vars.2 s hs
          obtain ⟨N, eN⟩ : ∃ N, namesL ms ps = N := ⟨_, rfl⟩
          have EN2 := hide eN
          rw [eN] at HO5 HSZ HT
          have HI := hide (CellsIn.own HO5.out)
          obtain ⟨no, nc, ev, _⟩ := HI.out
          subst ev
          rw [List.length_map] at HI
          rw [List.length_map]
          obtain ⟨t, et⟩ : ∃ t, N.length = t := ⟨_, rfl⟩
          have ET := hide et
          have ht : t ≤ 4194304 := by rw [← et]; exact HT.out
          rw [et] at HI ⊢
          clear et eN HO5
          go_wp2
          go_loopw [72] (NamE wr N) (fun iv _ => t - (intOf iv).toNat)
          case atStart => exact ⟨0, by omega, rfl, Below.refl _ _, fun j y hj => absurd hj (Nat.not_lt_zero j)⟩
          case round =>
            obtain ⟨j, hj, rfl, HB6, HA⟩ := hrel
            rw [ET.out] at hj
            by_cases hltj : j < t
            · have hltj' : (j : Int) < (t : Int) := by omega
              have hj0 : (0 : Int) ≤ (j : Int) := by omega
              have hjx : j < N.length := by rw [ET.out]; exact hltj
              obtain ⟨no', nc', e5, hnc⟩ := (StrsIn.at HI.out).stays HB6.out
              injection e5 with e6 e7 e8
              subst e6
              obtain ⟨b, rfl, _, hy⟩ := hnc j hjx
              have EX : Hid (N[j]? = some N[j]) := List.getElem?_eq_getElem hjx
              have hsz := HSZ.out _ (List.getElem_mem hjx)
              obtain ⟨y, ey⟩ : ∃ y, N[j] = y := ⟨_, rfl⟩
              rw [ey] at hy EX hsz
              clear ey hnc e7 e8
              have C := fun w => hide (implNameOk_any y w hsz)
              cases hnb : nameB y with
              | true =>
                rw [hnb] at C
                have HTT := hide hnb
                clear hnb hsz
                go_wp2_with (go_at_call 60; refine (unhide (C _)).mono ?_; rintro e w7 ⟨rfl, hb7⟩; have HB7 := hide (HB6.out.trans (hb7.mono HB6.out.size)); clear hb7)
                go_roundw
                case rel => exact ⟨j + 1, by rw [ET.out]; omega, by go_num, HB7.out, fun i z hi hz => by
                  rcases Nat.lt_succ_iff_lt_or_eq.1 hi with h | h
                  · exact HA.out i z h hz
                  · subst h; rw [EX.out] at hz; cases hz; exact HTT.out⟩
                case measure => simp [intOf]; omega
              | false =>
                rw [hnb] at C
                have HF : Hid ((namesL ms ps).all nameB = false) := by rw [EN2.out]; exact all_no EX.out hnb
                clear hnb hsz
                go_wp2_with (go_at_call 60; refine (unhide (C _)).mono ?_; rintro e w7 ⟨rfl, hb7⟩; have HB7 := hide (HB6.out.trans (hb7.mono HB6.out.size)); clear hb7)
                go_ret
                exact ⟨by rw [HF.out]; rfl, HB.out.trans ((HB5.out.trans (HB7.out.mono HB5.out.size)).mono HB.out.size)⟩
            · have hltj' : ¬ (j : Int) < (t : Int) := by omega
              have HF : Hid ((namesL ms ps).all nameB = true) := by
                rw [EN2.out]
                exact all_yes (fun i z hz => HA.out i z (by have := (List.getElem?_eq_some_iff.1 hz).1; rw [ET.out] at this; omega) hz)
              go_wp2
              go_ret
              exact ⟨by rw [HF.out]; rfl, HB.out.trans ((HB5.out.trans (HB6.out.mono HB5.out.size)).mono HB.out.size)⟩
end Go.Proofs.YtdfahpachbhglaaGreatDoor
