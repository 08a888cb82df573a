/-
  Walks of the program: whether all that processes use are monitors.
-/
import Derived.Test.YtpdpmnkonkpheaaGreatNamW
import Derived.Test.YtpdpmnkonkpheaaGreatImvJ
import Derived.Test.YtpdpmnkonkpheaaGreatScoV
namespace Go.Proofs.YtpdpmnkonkpheaaGreat
open Go.RowKit

def useB (ms : List Mo) (p : Pr) : Bool := p.uses.all fun u => decide (0 ≤ firstAt (monN u) ms)
def usesB (ms : List Mo) (ps : List Pr) : Bool := ps.all (useB ms)
theorem useB_no {ms : List Mo} {ps : List Pr} {i j : Nat} (hi : i < ps.length) (hj : j < ps[i].uses.length) (h : firstAt (monN ps[i].uses[j]) ms < 0) : usesB ms ps = false :=
  allB_no hi (allB_no (f := fun u => decide (0 ≤ firstAt (monN u) ms)) hj (decide_eq_false (by omega)))
theorem useB_yes {ms : List Mo} {p : Pr} (h : ∀ i (hi : i < p.uses.length), ¬ firstAt (monN p.uses[i]) ms < 0) : useB ms p = true :=
  allB_yes (f := fun u => decide (0 ≤ firstAt (monN u) ms)) fun i hi => decide_eq_true (by have := h i hi; omega)

set_option maxRecDepth 100000 in
set_option maxHeartbeats 4000000 in
theorem usesMonitors_any (nv mv pv : Value) (ms : List Mo) (ps : List Pr) (w : World) (hN : SlV nv) (hM : MosAt w mv ms) (hP : PrsAt w pv ps) (hml : ms.length ≤ 1048576) (hpl : ps.length ≤ 1048576) (hpi : ∀ p ∈ ps, p.uses.length ≤ 1048576) :
    Calls Tryz.prog 39 #[.agg #[nv, mv, pv]] w fun e w' => e = .returned (.bool (usesB ms ps)) ∧ Below w.heap.size w w' := by
  have hb1 : Below w.heap.size w (w.alloc (.cells #[nv, mv, pv] 33)) := (Below.refl _ _).alloc (Nat.le_refl _) _
  have HM := hide (hM.stays hb1)
  have HP := hide (hP.stays hb1)
  have HX := hide (Boxed.made w nv mv pv 33)
  have HB := hide hb1
  have HPI := hide hpi
  have CM := fun s z h => hide (implMonitorAt_any nv mv pv ms s z hN h hP.sl hml)
  clear hb1 hpi
  obtain ⟨ao, c, rfl, _⟩ := hM
  obtain ⟨bo, d, rfl, _⟩ := hP
  obtain ⟨on, nn, cn, rfl⟩ := hN
  obtain ⟨R, eR⟩ : ∃ R, usesB ms ps = R := ⟨_, rfl⟩
  have ER := hide eR
  rw [eR]
  clear eR
  go_enter Tryz.func39, Tryz.ntmps39
  go_wp2
  obtain ⟨W1, hW⟩ : ∃ W1, w.alloc (.cells #[.slice on nn cn, .slice ao ms.length c, .slice bo ps.length d] 33) = W1 := ⟨_, rfl⟩
  rw [hW] at HM HP HX HB ⊢
  clear hW
  obtain ⟨q, eq⟩ : ∃ q, ps.length = q := ⟨_, rfl⟩
  have EQ := hide eq
  simp only [eq] at CM
  rw [eq] at HP hpl HX ⊢
  clear eq
  go_loopw [10] (UsR W1 q (fun j => ∀ h : j < ps.length, useB ms ps[j] = true)) (fun iv _ => q - (intOf iv).toNat)
  case atStart => exact ⟨0, by omega, rfl, Below.refl _ _, fun j hj => absurd hj (Nat.not_lt_zero j)⟩
  case round =>
    obtain ⟨i, hi, rfl, HB2, HG⟩ := hrel
    by_cases hlt : i < q
    · have hlt' : (i : Int) < (q : Int) := by omega
      have hi0 : (0 : Int) ≤ (i : Int) := by omega
      have hix : i < ps.length := by rw [EQ.out]; exact hlt
      have HUL := hide (HPI.out _ (List.getElem_mem hix))
      obtain ⟨ao', cc, e5, hc⟩ := HP.out
      injection e5 with e6 e7 e8
      subst e6
      obtain ⟨a, uv, vv, rfl, hab, hcell⟩ := hc i hix
      have hcell2 := hcell.stays HB2.out (by rw [block_add]; exact hab)
      have HV1 := hide hcell2.uses
      obtain ⟨p, hpa⟩ : ∃ p, a.add (i * 4) = p := ⟨_, rfl⟩
      rw [hpa] at hcell2
      have HGOOD : Hid (useB ms ps[i] = true → ∀ j, j < i + 1 → ∀ h : j < ps.length, useB ms ps[j] = true) := fun h j hj hj2 => by
        by_cases e : j = i
        · subst e; exact h
        · exact HG.out j (by omega) hj2
      obtain ⟨x, ex⟩ : ∃ x, ps[i] = x := ⟨_, rfl⟩
      have HBAD : Hid (∀ j (hj : j < x.uses.length), firstAt (monN x.uses[j]) ms < 0 → R = false) := fun j hj h => by subst ex; rw [← ER.out]; exact useB_no hix hj h
      rw [ex] at HUL hcell2 HV1 HGOOD
      obtain ⟨d0, d1, d2, d3, hv1, hv2⟩ := hcell2
      obtain ⟨uo, uc, rfl, _⟩ := hv1
      obtain ⟨vo, vc, rfl, _⟩ := hv2
      clear ex hc e7 e8 hcell hix HG
      have HBA : Hid (Below W1.heap.size W1 (wr.alloc (.cells #[.string x.name, .slice uo x.uses.length uc, .slice vo x.vars.length vc, .int .i64 x.body] 49))) := HB2.out.alloc HB2.out.size _
      have HV2 := hide (HV1.out.stays ((Below.refl wr.heap.size wr).alloc (Nat.le_refl _) (.cells #[.string x.name, .slice uo x.uses.length uc, .slice vo x.vars.length vc, .int .i64 x.body] 49)))
      obtain ⟨m, em⟩ : ∃ m, x.uses.length = m := ⟨_, rfl⟩
      have EM := hide em
      rw [em] at HUL HV2 HBA d1
      have hm : m ≤ 1048576 := HUL.out
      clear HV1
      go_wp2
      obtain ⟨w1, hW1⟩ : ∃ w1, wr.alloc (.cells #[.string x.name, .slice uo m uc, .slice vo x.vars.length vc, .int .i64 x.body] 49) = w1 := ⟨_, rfl⟩
      rw [hW1] at HV2 HBA ⊢
      clear hW1 d0 d1 d2 d3 em HB2
      go_loopw [17] (UsR w1 m (fun j => ∀ h : j < x.uses.length, ¬ firstAt (monN x.uses[j]) ms < 0)) (fun iv _ => m - (intOf iv).toNat)
      case atStart => exact ⟨0, by omega, rfl, Below.refl _ _, fun j hj => absurd hj (Nat.not_lt_zero j)⟩
      case round =>
        obtain ⟨j, hj, rfl, HB4, HG4⟩ := hrel
        have HB5 : Hid (Below W1.heap.size W1 wr) := HBA.out.trans (HB4.out.mono HBA.out.size)
        obtain ⟨c0, c1, c2, _⟩ := HX.out.stays HB5.out
        by_cases hlt2 : j < m
        · have hlt2' : (j : Int) < (m : Int) := by omega
          have hj0 : (0 : Int) ≤ (j : Int) := by omega
          have hjx : j < x.uses.length := by rw [EM.out]; exact hlt2
          obtain ⟨eo', ec', e5, hec⟩ := HV2.out.stays HB4.out
          injection e5 with e6 e7 e8
          subst e6
          obtain ⟨b, rfl, hbb, hy⟩ := hec j hjx
          have HBAD2 := hide (HBAD.out j hjx)
          have HGOOD2 : Hid (¬ firstAt (monN x.uses[j]) ms < 0 → ∀ k, k < j + 1 → ∀ h : k < x.uses.length, ¬ firstAt (monN x.uses[k]) ms < 0) := fun h k hk hk2 => by
            by_cases e : k = j
            · subst e; exact h
            · exact HG4.out k (by omega) hk2
          obtain ⟨u, eu⟩ : ∃ u, x.uses[j] = u := ⟨_, rfl⟩
          rw [eu] at hy HBAD2 HGOOD2
          have CM1 := fun z h => CM u z h
          obtain ⟨fi, efi⟩ : ∃ fi, firstAt (monN u) ms = fi := ⟨_, rfl⟩
          rw [efi] at CM1 HBAD2 HGOOD2
          clear hec eu e7 e8 hbb HG4 hjx efi
          by_cases hfi : fi < 0
          · have eR2 : R = false := HBAD2.out hfi
            subst eR2
            go_wp2_with (go_at_call 70; refine (unhide (CM1 _ (HM.out.stays HB5.out))).mono ?_; rintro e w7 ⟨rfl, hb7⟩)
            go_ret
            exact ⟨rfl, HB.out.trans ((HB5.out.trans (hb7.mono HB5.out.size)).mono HB.out.size)⟩
          · have GG := hide (HGOOD2.out hfi)
            go_wp2_with (go_at_call 70; refine (unhide (CM1 _ (HM.out.stays HB5.out))).mono ?_; rintro e w7 ⟨rfl, hb7⟩)
            have D := hide (HB4.out.trans (hb7.mono HB4.out.size))
            clear hb7
            go_roundw
            case rel => exact ⟨j + 1, by omega, by go_num, D.out, fun k hk h => by have := GG.out k hk h; omega⟩
            case measure => simp [intOf]; omega
        · have hlt2' : ¬ (j : Int) < (m : Int) := by omega
          have GG := hide (HGOOD.out (useB_yes fun k hk => HG4.out k (by have := hk; rw [EM.out] at this; omega) hk))
          clear HG4
          go_wp2
          go_roundw
          case rel => exact ⟨i + 1, by omega, by go_num, HB5.out, GG.out⟩
          case measure => simp [intOf]; omega
    · have hlt' : ¬ (i : Int) < (q : Int) := by omega
      have eR2 : R = true := by
        rw [← ER.out]
        exact allB_yes fun k hk => HG.out k (by have := hk; rw [EQ.out] at this; omega) hk
      subst eR2
      go_wp2
      go_ret
      exact ⟨rfl, HB.out.trans (HB2.out.mono HB.out.size)⟩
end Go.Proofs.YtpdpmnkonkpheaaGreat

namespace Go.Proofs.YtpdpmnkonkpheaaGreat
open Go.RowKit Go.Maps

/-- The names of the entries of the monitor of this name. -/
def entsOf (ms : List Mo) (s : ByteArray) : List ByteArray := (ms.getD (firstAt (monN s) ms).toNat default).ents.map En.name
/-- Sets by name: of these names each its own, of all others none; each set in a block behind the map's. -/
def EuAt (w : World) (be n : Nat) (us : List ByteArray) (f : ByteArray → List ByteArray) : Prop :=
  ∃ D, w.ownsMap Tryz.prog 9 mapElem be n D ∧ ∀ s : ByteArray, (s ∈ us ∧ ∃ (b m : Nat), D.atKey (.string s.data.toList) (.lit (.bool false)) = .lit (.int .i64 (b : Int)) ∧ be < b ∧ SetAt w b m (f s)) ∨ (s ∉ us ∧ D.atKey (.string s.data.toList) (.lit (.bool false)) = .lit (.bool false))
theorem EuAt.made (w : World) (f : ByteArray → List ByteArray) : EuAt (w.alloc (.map #[] 0)) w.heap.size 0 [] f := ⟨_, World.ownsMap_made _ _ _ _, fun _ => .inr ⟨by simp, rfl⟩⟩
theorem EuAt.stays {w w' : World} {be n : Nat} {us : List ByteArray} {f : ByteArray → List ByteArray} (h : EuAt w be n us f) (hb : Below w.heap.size w w') : EuAt w' be n us f := by
  obtain ⟨D, h1, h2⟩ := h
  refine ⟨D, ownsMap_all h1 hb, fun s => ?_⟩
  rcases h2 s with ⟨h3, b, m, h4, h5, h6⟩ | h3
  · exact .inl ⟨h3, b, m, h4, h5, h6.all hb⟩
  · exact .inr h3
theorem EuAt.lt {w : World} {be n : Nat} {us : List ByteArray} {f : ByteArray → List ByteArray} (h : EuAt w be n us f) : be < w.heap.size := by
  obtain ⟨D, h1, _⟩ := h
  exact h1.lt
theorem EuAt.es {w : World} {be n : Nat} {us : List ByteArray} {f : ByteArray → List ByteArray} (h : EuAt w be n us f) : EsAt w (.map (some be)) (fun s => if memB us s = true then f s else []) := by
  obtain ⟨D, h1, h2⟩ := h
  refine .inr ⟨be, n, D, rfl, h1, fun s => ?_⟩
  rcases h2 s with ⟨h3, b, m, h4, h5, h6⟩ | ⟨h3, h4⟩
  · refine ⟨.map (some b), by rw [h4]; rfl, .inr ⟨b, m, rfl, ?_⟩⟩
    show SetAt w b m (if memB us s = true then f s else [])
    rw [if_pos (memB_iff.2 h3)]
    exact h6
  · refine ⟨.map none, by rw [h4]; rfl, .inl ⟨rfl, ?_⟩⟩
    show (if memB us s = true then f s else []) = []
    rw [if_neg (by rw [memB_no.2 h3]; decide)]
theorem EuAt.put {w : World} {be n b m : Nat} {us : List ByteArray} {f : ByteArray → List ByteArray} {u : ByteArray} (h : EuAt w be n us f) (hu : u.size ≤ 1048576) (hn : n ≤ 4194304) (hb : be < b) (hs : SetAt w b m (f u)) :
    ∃ w', (Instr.mapUpdate 85 (.map (some be)) (.string u) (.map (some b))).run Tryz.prog w = .ok () w' ∧ EuAt w' be (n + 1) (us ++ [u]) f ∧ w.grownBy w' (some be) := by
  obtain ⟨D, h1, h2⟩ := h
  obtain ⟨w', hrun, r1, r2⟩ := h1.update lawN Tryz.underlying85 (by unfold maxLen; omega) (keyN hu) (val := .map (some b)) (d := .lit (.int .i64 (b : Int))) (ps := []) rfl
  refine ⟨w', hrun, ⟨_, r1, fun s => ?_⟩, r2⟩
  by_cases e : s = u
  · subst e
    refine .inl ⟨by simp, b, m, ?_, hb, hs.kept r2 (fun q => by have := Option.some.inj q; omega)⟩
    exact atKey_put_same h1.isMap (show WideAt.IsKeyLit (.string s.data.toList) from trivial) _ _
  · rw [atKey_put_other (lit_ne e)]
    rcases h2 s with ⟨h3, b', m', h4, h5, h6⟩ | ⟨h3, h4⟩
    · exact .inl ⟨by simp [h3], b', m', h4, h5, h6.kept r2 (fun q => by have := Option.some.inj q; omega)⟩
    · exact .inr ⟨by simp [h3, e], h4⟩
theorem Box.kept {w w' : World} {b c n : Nat} {cs : Array Value} {t : TypeId} {us : List ByteArray} {f : ByteArray → List ByteArray} (h : Box w b cs t) (hs : EuAt w c n us f) (hg : w.grownBy w' (some c)) : Box w' b cs t := by
  obtain ⟨D, ⟨es, cl, q, _⟩, _⟩ := hs
  have hne : b ≠ c := fun e => h.nomap (e ▸ q)
  exact (hg.block b h.lt (fun e => hne (Option.some.inj e))).trans h
/-- The scope of a process. -/
def scoP (ms : List Mo) (p : Pr) : Sco := ⟨false, p.vars, [], fun s => if memB p.uses s = true then entsOf ms s else []⟩
/-- While a process's scope is made. -/
structure SpZ (w : World) (nv mv pv : Value) (p : Pr) (uv vv : Value) (ms : List Mo) (gs bv be n : Nat) (us : List ByteArray) (z : World) : Prop where
  bp : Box z w.heap.size #[nv, mv, pv] 33
  bq : Box z (w.heap.size + 1) #[.string p.name, uv, vv, .int .i64 p.body] 49
  br : Box z (w.heap.size + 2) #[.bool false, .map none, .map none, .map none] 87
  bs : Box z gs #[.bool false, .map (some bv), .map none, .map (some be)] 87
  gt : w.heap.size + 2 < gs
  sv : SetAt z bv p.vars.length p.vars
  ne : bv ≠ be
  lo : w.heap.size ≤ be
  eu : EuAt z be n us (entsOf ms)
  bel : Below w.heap.size w z
theorem SpZ.stays {w : World} {nv mv pv : Value} {p : Pr} {uv vv : Value} {ms : List Mo} {gs bv be n : Nat} {us : List ByteArray} {z z' : World} (h : SpZ w nv mv pv p uv vv ms gs bv be n us z) (hb : Below z.heap.size z z') : SpZ w nv mv pv p uv vv ms gs bv be n us z' :=
  ⟨h.bp.stays hb, h.bq.stays hb, h.br.stays hb, h.bs.stays hb, h.gt, h.sv.all hb, h.ne, h.lo, h.eu.stays hb, h.bel.trans (hb.mono h.bel.size)⟩
theorem SpZ.turn {w : World} {nv mv pv : Value} {p : Pr} {uv vv : Value} {ms : List Mo} {gs bv be n n' : Nat} {us us' : List ByteArray} {z z' : World} (h : SpZ w nv mv pv p uv vv ms gs bv be n us z) (he : EuAt z' be n' us' (entsOf ms)) (hg : z.grownBy z' (some be)) : SpZ w nv mv pv p uv vv ms gs bv be n' us' z' :=
  ⟨h.bp.kept h.eu hg, h.bq.kept h.eu hg, h.br.kept h.eu hg, h.bs.kept h.eu hg, h.gt, h.sv.kept hg (fun q => h.ne (Option.some.inj q)), h.ne, h.lo, he, h.bel.grown hg h.bel.size (fun k hk => by cases hk; exact h.lo)⟩
theorem SpZ.sc {w : World} {nv mv pv : Value} {p : Pr} {uv vv : Value} {ms : List Mo} {gs bv be n : Nat} {z : World} (h : SpZ w nv mv pv p uv vv ms gs bv be n p.uses z) : ScAt z (.map (some bv)) (.map none) (.map (some be)) (scoP ms p) :=
  ⟨.inr ⟨_, _, rfl, h.sv⟩, .inl ⟨rfl, rfl⟩, h.eu.es⟩
theorem SetAt.boxed {w w' : World} {b m g : Nat} {ks : List ByteArray} {c : Array Value} {t : TypeId} (h : SetAt w b m ks) (hc : Box w g c t) (hb : But g w w') : SetAt w' b m ks := by
  have hl := h.lt
  obtain ⟨D, ⟨es, cl, q1, q2⟩, h2⟩ := h
  have hne : b ≠ g := fun e => hc.nomap (e ▸ q1)
  exact ⟨D, ⟨es, cl, (hb.block b hl hne).trans q1, q2⟩, h2⟩
theorem MsAt.boxed {w w' : World} {v : Value} {g : Nat} {ks : List ByteArray} {c : Array Value} {t : TypeId} (h : MsAt w v ks) (hc : Box w g c t) (hb : But g w w') : MsAt w' v ks := by
  rcases h with h | ⟨b, m, rfl, h⟩
  · exact .inl h
  · exact .inr ⟨b, m, rfl, h.boxed hc hb⟩
theorem ScAt.boxed {w w' : World} {va qa ea : Value} {s : Sco} {g : Nat} {c : Array Value} {t : TypeId} (h : ScAt w va qa ea s) (hc : Box w g c t) (hb : But g w w') : ScAt w' va qa ea s := by
  refine ⟨h.vars.boxed hc hb, h.queues.boxed hc hb, ?_⟩
  rcases h.ents with h | ⟨b, m, D, rfl, h1, h2⟩
  · exact .inl h
  · have hl := h1.lt
    obtain ⟨es, cl, q1, q2⟩ := h1
    have hne : b ≠ g := fun e => hc.nomap (e ▸ q1)
    refine .inr ⟨b, m, D, rfl, ⟨es, cl, (hb.block b hl hne).trans q1, q2⟩, fun s => ?_⟩
    obtain ⟨u, h3, h4⟩ := h2 s
    exact ⟨u, h3, h4.boxed hc hb⟩
theorem Box.ne {z : World} {a b : Nat} {c c' : Array Value} {t t' : TypeId} (h : Box z a c t) (k : Box z b c' t') (ht : t ≠ t') : a ≠ b := by
  intro e
  subst e
  have h1 : z.heap[a]? = some (.cells c t (0, 0)) := h
  have h2 : z.heap[a]? = some (.cells c' t' (0, 0)) := k
  rw [h1] at h2
  injection h2 with h2
  injection h2 with _ h2
  exact ht h2
theorem EuAt.boxed {w w' : World} {be n g : Nat} {us : List ByteArray} {f : ByteArray → List ByteArray} {c : Array Value} {t : TypeId} (h : EuAt w be n us f) (hc : Box w g c t) (hb : But g w w') : EuAt w' be n us f := by
  have hl := h.lt
  obtain ⟨D, ⟨es, cl, q1, q2⟩, h2⟩ := h
  have hne : be ≠ g := fun e => hc.nomap (e ▸ q1)
  refine ⟨D, ⟨es, cl, (hb.block be hl hne).trans q1, q2⟩, fun s => ?_⟩
  rcases h2 s with ⟨h3, b, m, h4, h5, h6⟩ | h3
  · exact .inl ⟨h3, b, m, h4, h5, h6.boxed hc hb⟩
  · exact .inr h3
theorem SpZ.box1 {w : World} {nv mv pv : Value} {p : Pr} {uv vv : Value} {ms : List Mo} {gs bv be n : Nat} {us : List ByteArray} {z : World} {c : Array Value} {t : TypeId} (h : SpZ w nv mv pv p uv vv ms gs bv be n us z) : SpZ w nv mv pv p uv vv ms gs bv be n us (z.alloc (.cells c t)) ∧ Box (z.alloc (.cells c t)) z.heap.size c t :=
  ⟨h.stays ((Below.refl _ _).alloc (Nat.le_refl _) _), Box.made _ _ _⟩
theorem SpZ.box2 {w : World} {nv mv pv : Value} {p : Pr} {uv vv : Value} {ms : List Mo} {gs bv be n gu : Nat} {us : List ByteArray} {z : World} {a0 a1 a2 a3 b0 b1 b2 b3 : Value} (h : SpZ w nv mv pv p uv vv ms gs bv be n us z) (ba : Box z gu #[a0, a1, a2, a3] 76) (hgu : w.heap.size ≤ gu) :
    SpZ w nv mv pv p uv vv ms gs bv be n us ((((z.setCell ⟨gu, 0, none⟩ b0).setCell ⟨gu, 1, none⟩ b1).setCell ⟨gu, 2, none⟩ b2).setCell ⟨gu, 3, none⟩ b3) ∧ Box ((((z.setCell ⟨gu, 0, none⟩ b0).setCell ⟨gu, 1, none⟩ b1).setCell ⟨gu, 2, none⟩ b2).setCell ⟨gu, 3, none⟩ b3) gu #[b0, b1, b2, b3] 76 := by
  have hb : But gu z ((((z.setCell ⟨gu, 0, none⟩ b0).setCell ⟨gu, 1, none⟩ b1).setCell ⟨gu, 2, none⟩ b2).setCell ⟨gu, 3, none⟩ b3) := ((((But.refl _ z).setCell _ _).setCell _ _).setCell _ _).setCell _ _
  exact ⟨⟨h.bp.but hb (h.bp.ne ba (by decide)), h.bq.but hb (h.bq.ne ba (by decide)), h.br.but hb (h.br.ne ba (by decide)), h.bs.but hb (h.bs.ne ba (by decide)), h.gt, h.sv.boxed ba hb, h.ne, h.lo, h.eu.boxed ba hb, h.bel.trans (hb.bel.mono hgu)⟩, ba.set4⟩
def SpR (w : World) (nv mv pv : Value) (p : Pr) (uv vv : Value) (ms : List Mo) (gs bv be : Nat) (iv : Value) (wr : World) : Prop :=
  ∃ i : Nat, i ≤ p.uses.length ∧ iv = .int .i64 i ∧ Hid (SpZ w nv mv pv p uv vv ms gs bv be i (p.uses.take i) wr)

set_option maxRecDepth 100000 in
set_option maxHeartbeats 4000000 in
theorem scopeOfProcess_any (nv mv pv uv vv : Value) (ms : List Mo) (p : Pr) (w : World) (hN : SlV nv) (hM : MosAt w mv ms) (hP : SlV pv) (hU : StrsAt w uv p.uses) (hV : StrsAt w vv p.vars) (hml : ms.length ≤ 1048576) (hmi : ∀ m ∈ ms, MoIn m) (hpi : PrIn p) (hb : useB ms p = true) :
    Calls Tryz.prog 42 #[.agg #[nv, mv, pv], .agg #[.string p.name, uv, vv, .int .i64 p.body]] w fun e w' => ∃ va qa ea, e = .returned (.agg #[.bool false, va, qa, ea]) ∧ ScAt w' va qa ea (scoP ms p) ∧ Below w.heap.size w w' := by
  have hb1 : Below w.heap.size w (w.alloc (.cells #[nv, mv, pv] 33)) := (Below.refl _ _).alloc (Nat.le_refl _) _
  have hb2 := hb1.alloc hb1.size (.cells #[.string p.name, uv, vv, .int .i64 p.body] 49)
  have hb3 := hb2.alloc hb2.size (.cells #[.bool false, .map none, .map none, .map none] 87)
  have z1 : (w.alloc (.cells #[nv, mv, pv] 33)).heap.size = w.heap.size + 1 := by simp
  have z2 : ((w.alloc (.cells #[nv, mv, pv] 33)).alloc (.cells #[.string p.name, uv, vv, .int .i64 p.body] 49)).heap.size = w.heap.size + 2 := by simp
  have B3 := Box.made ((w.alloc (.cells #[nv, mv, pv] 33)).alloc (.cells #[.string p.name, uv, vv, .int .i64 p.body] 49)) #[.bool false, .map none, .map none, .map none] 87
  have B2 := (Box.made (w.alloc (.cells #[nv, mv, pv] 33)) #[.string p.name, uv, vv, .int .i64 p.body] 49).stays ((Below.refl _ _).alloc (Nat.le_refl _) (.cells #[.bool false, .map none, .map none, .map none] 87))
  have B1 := ((Box.made w #[nv, mv, pv] 33).stays ((Below.refl _ _).alloc (Nat.le_refl _) (.cells #[.string p.name, uv, vv, .int .i64 p.body] 49))).stays ((Below.refl _ _).alloc (Nat.le_refl _) (.cells #[.bool false, .map none, .map none, .map none] 87))
  rw [z2] at B3
  rw [z1] at B2
  have Q1 := hide B1
  have Q2 := hide B2
  have Q3 := hide B3
  have HB := hide hb3
  have HM := hide hM
  have HU := hide hU
  have CN := hide (namesIn_any vv p.vars _ (hV.stays hb3) hpi.vars.1 hpi.vars.2)
  have CM := fun s z h => hide (implMonitorAt_any nv mv pv ms s z hN h hP hml)
  have CE := fun nm vv qv ev es z h1 h2 h3 hl => hide (entryNames_any nm vv qv ev es z h1 h2 h3 hl)
  have CS := fun v xs z h hl hs => hide (namesIn_any v xs z h hl hs)
  have HMI := hide hmi
  have HPI := hide hpi
  have HUB := hide hb
  have hmm := @run_makeMap Tryz.prog
  obtain ⟨no, nn, nc, rfl⟩ := hN
  obtain ⟨mo, mc, rfl, _⟩ := hM
  obtain ⟨po, pn, pc, rfl⟩ := hP
  obtain ⟨uo, uc, rfl, _⟩ := hU
  obtain ⟨vo, vc, rfl, _⟩ := hV
  have q2 := Lib.cell_of_heap Q2.out 2
  simp only [List.getElem?_toArray, List.getElem?_cons_succ, List.getElem?_cons_zero] at q2
  clear hb1 hb2 hb3 z1 z2 B1 B2 B3 hmi hpi hb
  go_enter Tryz.func42, Tryz.ntmps42
  go_wp2_with fail
  refine (unhide CN).mono ?_
  rintro e w1 ⟨rfl, hs1, hb1⟩
  have S1 := hide hs1
  have Q11 := hide (Q1.out.stays hb1)
  have Q21 := hide (Q2.out.stays hb1)
  have Q31 := hide (Q3.out.stays hb1)
  have HB1 := hide (HB.out.trans (hb1.mono HB.out.size))
  have G1 : Hid (w.heap.size + 2 < w1.heap.size) := Q31.out.lt
  obtain ⟨bv, ebv⟩ : ∃ bv, (((w.alloc (.cells #[.slice no nn nc, .slice mo ms.length mc, .slice po pn pc] 33)).alloc (.cells #[.string p.name, .slice uo p.uses.length uc, .slice vo p.vars.length vc, .int .i64 p.body] 49)).alloc (.cells #[.bool false, .map none, .map none, .map none] 87)).heap.size = bv := ⟨_, rfl⟩
  rw [ebv] at S1 ⊢
  clear hs1 hb1 Q1 Q2 Q3 HB q2 CN ebv
  have E1 : Hid (EuAt (w1.alloc (.map #[] 0)) w1.heap.size 0 [] (entsOf ms)) := EuAt.made w1 _
  have b1 : Below w1.heap.size w1 (w1.alloc (.map #[] 0)) := (Below.refl _ _).alloc (Nat.le_refl _) _
  have sz1 : (w1.alloc (.map #[] 0)).heap.size = w1.heap.size + 1 := by simp
  have b2 : Below (w1.alloc (.map #[] 0)).heap.size (w1.alloc (.map #[] 0)) ((w1.alloc (.map #[] 0)).alloc (.cells #[.bool false, .map (some bv), .map none, .map (some w1.heap.size)] 87)) := (Below.refl _ _).alloc (Nat.le_refl _) _
  have BS := Box.made (w1.alloc (.map #[] 0)) #[.bool false, .map (some bv), .map none, .map (some w1.heap.size)] 87
  rw [sz1] at BS
  have Z0 : Hid (SpZ w (.slice no nn nc) (.slice mo ms.length mc) (.slice po pn pc) p (.slice uo p.uses.length uc) (.slice vo p.vars.length vc) ms (w1.heap.size + 1) bv w1.heap.size 0 [] ((w1.alloc (.map #[] 0)).alloc (.cells #[.bool false, .map (some bv), .map none, .map (some w1.heap.size)] 87))) :=
    ⟨(Q11.out.stays b1).stays b2, (Q21.out.stays b1).stays b2, (Q31.out.stays b1).stays b2, BS, by have := G1.out; omega, (S1.out.all b1).all b2, by have := S1.out.lt; omega, by have := G1.out; omega, E1.out.stays b2, (HB1.out.trans (b1.mono HB1.out.size)).trans (b2.mono (HB1.out.trans (b1.mono HB1.out.size)).size)⟩
  have q1 := Lib.cell_of_heap Z0.out.bq 1
  simp only [List.getElem?_toArray, List.getElem?_cons_succ, List.getElem?_cons_zero] at q1
  clear b1 b2 sz1 BS E1 S1 Q11 Q21 Q31 HB1
  have hul := HPI.out.uses.1
  obtain ⟨m, em⟩ : ∃ m, p.uses.length = m := ⟨_, rfl⟩
  have EM := hide em
  rw [em] at Z0 HU q1 hul ⊢
  clear em
  go_wp2
  clear q1
  obtain ⟨be, ebe⟩ : ∃ be, w1.heap.size = be := ⟨_, rfl⟩
  rw [ebe] at Z0 ⊢
  obtain ⟨gs, egs⟩ : ∃ gs, be + 1 = gs := ⟨_, rfl⟩
  rw [egs] at Z0 ⊢
  clear ebe egs G1
  go_loopw [17] (SpR w (.slice no nn nc) (.slice mo ms.length mc) (.slice po pn pc) p (.slice uo m uc) (.slice vo p.vars.length vc) ms gs bv be) (fun iv _ => m - (intOf iv).toNat)
  case atStart => exact ⟨0, by omega, rfl, Z0.out⟩
  case round =>
    clear Z0
    obtain ⟨i, hi, rfl, Z⟩ := hrel
    rw [EM.out] at hi
    by_cases hlt : i < m
    · have hlt' : (i : Int) < (m : Int) := by omega
      have hi0 : (0 : Int) ≤ (i : Int) := by omega
      have hix : i < p.uses.length := by rw [EM.out]; exact hlt
      have HT : Hid (p.uses.take (i + 1) = p.uses.take i ++ [p.uses[i]]) := List.take_succ_eq_append_getElem hix
      have HSU := hide (HPI.out.uses.2 _ (List.getElem_mem hix))
      have HFI : Hid (0 ≤ firstAt (monN p.uses[i]) ms) := by
        have h := List.all_eq_true.1 HUB.out _ (List.getElem_mem hix)
        exact (of_decide_eq_true h : 0 ≤ firstAt (monN p.uses[i]) ms)
      obtain ⟨uo', uc', e5, hec⟩ := (HU.out.stays Z.out.bel)
      injection e5 with e6 e7 e8
      subst e6
      obtain ⟨b, rfl, _, hy⟩ := hec i hix
      obtain ⟨u, eu⟩ : ∃ u, p.uses[i] = u := ⟨_, rfl⟩
      rw [eu] at hy HT HSU HFI
      have HFL := hide (first_le (monN u) ms).2
      have HEO : Hid (entsOf ms u = (ms.getD (firstAt (monN u) ms).toNat default).ents.map En.name) := rfl
      have CM1 := fun z h => CM u z h
      obtain ⟨fi, efi⟩ : ∃ fi : Nat, firstAt (monN u) ms = (fi : Int) := ⟨(firstAt (monN u) ms).toNat, by have := HFI.out; omega⟩
      rw [efi] at CM1 HFL HEO
      rw [Int.toNat_natCast] at HEO
      have hfl : fi < ms.length := by have := HFL.out; omega
      have hf0 : (0 : Int) ≤ (fi : Int) := by omega
      have hf1 : (fi : Int) < (ms.length : Int) := by omega
      have HMX := hide (HMI.out _ (List.getElem_mem hfl))
      have HEX : Hid (ms.getD fi default = ms[fi]) := by show _ = _; rw [List.getD_eq_getElem?_getD, List.getElem?_eq_getElem hfl]; rfl
      rw [HEX.out] at HEO
      obtain ⟨mo', mc', e5, hmc⟩ := HM.out
      injection e5 with e6 e9 e10
      subst e6
      obtain ⟨ma, v1, v2, v3, rfl, hmb, hmx⟩ := hmc fi hfl
      obtain ⟨r, hra⟩ : ∃ r, ma.add (fi * 4) = r := ⟨_, rfl⟩
      rw [← block_add ma (fi * 4), hra] at hmb
      rw [hra] at hmx
      obtain ⟨x, ex⟩ : ∃ x, ms[fi] = x := ⟨_, rfl⟩
      rw [ex] at hmx HMX HEO
      have HXS : Hid (∀ z, Below w.heap.size w z → MoCell z r x v1 v2 v3) := fun z hz => hmx.stays hz hmb
      obtain ⟨o1, k1, rfl, _⟩ := hmx.vars
      obtain ⟨o2, k2, rfl, _⟩ := hmx.queues
      obtain ⟨o3, k3, rfl, _⟩ := hmx.ents
      clear hmx hmc e9 e10 ex HEX hec e7 e8 eu efi HFI HFL hix CM hmb
      go_wp2_with fail
      go_cut [7, 8, 17] from 17 to 34 (fun s7 s8 s17 z => ∃ gu, s7 = .string u ∧ s8 = .pointer (some ⟨gu, 0, none⟩) ∧ s17 = .int .i64 (i : Int) ∧ Hid (SpZ w (.slice no nn nc) (.slice (some ma) ms.length mc) (.slice po pn pc) p (.slice (some b) m uc) (.slice vo p.vars.length vc) ms gs bv be i (p.uses.take i) z) ∧ Hid (Box z gu #[.string x.name, .slice o1 x.vars.length k1, .slice o2 x.queues.length k2, .slice o3 x.ents.length k3] 76))
      case first =>
        have MM : Hid (∀ z, SpZ w (.slice no nn nc) (.slice (some ma) ms.length mc) (.slice po pn pc) p (.slice (some b) m uc) (.slice vo p.vars.length vc) ms gs bv be i (p.uses.take i) z → MosAt z (.slice (some ma) ms.length mc) ms) := fun z hz => HM.out.stays hz.bel
        have HXA : Hid (∀ z, Below w.heap.size w z → (∀ o, (z.alloc o).cell? r = some (.string x.name)) ∧ (∀ o, (z.alloc o).cell? { block := r.block, off := r.off + 1 } = some (.slice o1 x.vars.length k1)) ∧ (∀ o, (z.alloc o).cell? { block := r.block, off := r.off + 2 } = some (.slice o2 x.queues.length k2)) ∧ (∀ o, (z.alloc o).cell? { block := r.block, off := r.off + 3 } = some (.slice o3 x.ents.length k3))) := fun z hz => ⟨fun o => (HXS.out _ (hz.alloc hz.size o)).c0, fun o => (HXS.out _ (hz.alloc hz.size o)).c1, fun o => (HXS.out _ (hz.alloc hz.size o)).c2, fun o => (HXS.out _ (hz.alloc hz.size o)).c3⟩
        have K0 := hide (Z.out.stays (Below.refl _ _).drew)
        have KA0 := hide (Z.out.stays ((Below.refl _ _).alloc (Nat.le_refl _) (.cells #[.string ⟨#[]⟩, .slice none 0 0, .slice none 0 0, .slice none 0 0] 76)).drew)
        have BA0 : Hid (Box (wr.alloc (.cells #[.string ⟨#[]⟩, .slice none 0 0, .slice none 0 0, .slice none 0 0] 76)).drew wr.heap.size #[.string ⟨#[]⟩, .slice none 0 0, .slice none 0 0, .slice none 0 0] 76) := Box.made wr _ _
        have p0 := Lib.cell_of_heap Z.out.bp 0
        have p1 := Lib.cell_of_heap Z.out.bp 1
        have p2 := Lib.cell_of_heap Z.out.bp 2
        simp only [List.getElem?_toArray, List.getElem?_cons_succ, List.getElem?_cons_zero] at p0 p1 p2
        have a0 := fun o => Z.out.bp.past o 0
        have a1 := fun o => Z.out.bp.past o 1
        have a2 := fun o => Z.out.bp.past o 2
        simp only [List.getElem?_toArray, List.getElem?_cons_succ, List.getElem?_cons_zero] at a0 a1 a2
        go_region_with (go_at_call 70; (first | (refine (unhide (CM1 _ (MM.out _ K0.out))).mono ?_; rintro e w7 ⟨rfl, hb7⟩; have KX := hide (K0.out.stays hb7); obtain ⟨d0, d1, d2, d3, _, _, _⟩ := HXS.out w7 KX.out.bel; obtain ⟨g0, g1, g2, g3⟩ := HXA.out w7 KX.out.bel; have p07 := Lib.cell_of_heap KX.out.bp 0; have p17 := Lib.cell_of_heap KX.out.bp 1; have p27 := Lib.cell_of_heap KX.out.bp 2; simp only [List.getElem?_toArray, List.getElem?_cons_succ, List.getElem?_cons_zero] at p07 p17 p27; have a07 := fun o => KX.out.bp.past o 0; have a17 := fun o => KX.out.bp.past o 1; have a27 := fun o => KX.out.bp.past o 2; simp only [List.getElem?_toArray, List.getElem?_cons_succ, List.getElem?_cons_zero] at a07 a17 a27) | (refine (unhide (CM1 _ (MM.out _ KA0.out))).mono ?_; rintro e w7 ⟨rfl, hb7⟩; have KX := hide (KA0.out.stays hb7); have BA := hide (BA0.out.stays hb7); obtain ⟨d0, d1, d2, d3, _, _, _⟩ := HXS.out w7 KX.out.bel; obtain ⟨g0, g1, g2, g3⟩ := HXA.out w7 KX.out.bel; have p07 := Lib.cell_of_heap KX.out.bp 0; have p17 := Lib.cell_of_heap KX.out.bp 1; have p27 := Lib.cell_of_heap KX.out.bp 2; simp only [List.getElem?_toArray, List.getElem?_cons_succ, List.getElem?_cons_zero] at p07 p17 p27; have a07 := fun o => KX.out.bp.past o 0; have a17 := fun o => KX.out.bp.past o 1; have a27 := fun o => KX.out.bp.past o 2; simp only [List.getElem?_toArray, List.getElem?_cons_succ, List.getElem?_cons_zero] at a07 a17 a27; have t0 := Lib.cell_of_heap BA.out 0; have t1 := Lib.cell_of_heap BA.out 1; have t2 := Lib.cell_of_heap BA.out 2; have t3 := Lib.cell_of_heap BA.out 3; simp only [List.getElem?_toArray, List.getElem?_cons_succ, List.getElem?_cons_zero] at t0 t1 t2 t3; have f0 := Lib.frozen_of_heap BA.out 0; have f1 := Lib.frozen_of_heap BA.out 1; have f2 := Lib.frozen_of_heap BA.out 2; have f3 := Lib.frozen_of_heap BA.out 3)))
        all_goals (go_wp2_with fail; go_meet)
        all_goals (have s0 := Z.out.bel.size)
        all_goals (first
          | exact ⟨_, rfl, rfl, rfl, hide KX.out.box1.1, hide KX.out.box1.2⟩
          | exact ⟨_, rfl, rfl, rfl, hide (KX.out.box2 BA.out s0).1, hide (KX.out.box2 BA.out s0).2⟩)
      case rest =>
        obtain ⟨gu, rfl, rfl, rfl, Z, BU⟩ := hcut
        have c0 := Lib.cell_of_heap BU.out 0
        have c1 := Lib.cell_of_heap BU.out 1
        have c2 := Lib.cell_of_heap BU.out 2
        have c3 := Lib.cell_of_heap BU.out 3
        have s3 := Lib.cell_of_heap Z.out.bs 3
        simp only [List.getElem?_toArray, List.getElem?_cons_succ, List.getElem?_cons_zero] at c0 c1 c2 c3 s3
        have K0 := hide (Z.out.stays (Below.refl _ _).drew)
        have KE : Hid (∀ z, SpZ w (.slice no nn nc) (.slice (some ma) ms.length mc) (.slice po pn pc) p (.slice (some b) m uc) (.slice vo p.vars.length vc) ms gs bv be i (p.uses.take i) z → EnsAt z (.slice o3 x.ents.length k3) x.ents) := fun z hz => (HXS.out z hz.bel).ents
        have CE1 := fun z h => CE x.name (.slice o1 x.vars.length k1) (.slice o2 x.queues.length k2) (.slice o3 x.ents.length k3) x.ents z ⟨_, _, _, rfl⟩ ⟨_, _, _, rfl⟩ h HMX.out.len
        have CS1 := fun v z h => CS v (x.ents.map En.name) z h (by rw [List.length_map]; exact HMX.out.len) (fun s hs => by obtain ⟨y, hy, rfl⟩ := List.mem_map.1 hs; exact (HMX.out.ents y hy).1)
        rw [← HEO.out] at CS1
        have PU := fun z b' m' (hz : SpZ w (.slice no nn nc) (.slice (some ma) ms.length mc) (.slice po pn pc) p (.slice (some b) m uc) (.slice vo p.vars.length vc) ms gs bv be i (p.uses.take i) z) hlt hs => hz.eu.put (b := b') (m := m') (u := u) HSU.out (by omega) hlt hs
        have OC : Hid (∀ z v, StrsAt z v (x.ents.map En.name) → StrsAt z v (entsOf ms u)) := fun z v h => by rw [HEO.out]; exact h
        clear CE CS
        go_wp2_with fail
        go_region_with (first
          | (go_at_call 77; refine (unhide (CE1 _ (KE.out _ K0.out))).mono ?_; rintro e w7 ⟨v7, rfl, ho7, hb7⟩; have K7 := hide (K0.out.stays hb7); have O7 := hide (OC.out _ _ (StrsAt.own ho7)); have s37 := Lib.cell_of_heap K7.out.bs 3; simp only [List.getElem?_toArray, List.getElem?_cons_succ, List.getElem?_cons_zero] at s37; clear ho7)
          | (go_at_call 71; refine (unhide (CS1 _ _ O7.out)).mono ?_; rintro e w8 ⟨rfl, hs8, hb8⟩; have K8 := hide (K7.out.stays hb8); have s38 := Lib.cell_of_heap K8.out.bs 3; simp only [List.getElem?_toArray, List.getElem?_cons_succ, List.getElem?_cons_zero] at s38; obtain ⟨w9, hr9, he9, hg9⟩ := PU _ _ _ K8.out K7.out.eu.lt hs8; have E9 := hide he9; have G9 := hide hg9; clear hs8 he9 hg9))
        all_goals (have Z9 := hide (K8.out.turn E9.out G9.out))
        all_goals (rw [← HT.out] at Z9)
        all_goals go_wp2
        all_goals go_roundw
        all_goals (have LE : i + 1 ≤ p.uses.length := by rw [EM.out]; omega)
        all_goals first
          | (simp [intOf]; omega)
          | exact ⟨i + 1, LE, by go_num, Z9.out⟩
          | ((repeat apply Exists.intro); exact ⟨⟨i + 1, LE, by go_num, Z9.out⟩, rfl⟩)
          | trace_state
    · have hlt' : ¬ (i : Int) < (m : Int) := by omega
      have e9 : p.uses.take i = p.uses := List.take_of_length_le (by rw [EM.out]; omega)
      rw [e9] at Z
      have s0 := Lib.cell_of_heap Z.out.bs 0
      have s1 := Lib.cell_of_heap Z.out.bs 1
      have s2 := Lib.cell_of_heap Z.out.bs 2
      have s3 := Lib.cell_of_heap Z.out.bs 3
      have r0 := Lib.cell_of_heap Z.out.br 0
      have r1 := Lib.cell_of_heap Z.out.br 1
      have r2 := Lib.cell_of_heap Z.out.br 2
      have r3 := Lib.cell_of_heap Z.out.br 3
      have f0 := Lib.frozen_of_heap Z.out.br 0
      have f1 := Lib.frozen_of_heap Z.out.br 1
      have f2 := Lib.frozen_of_heap Z.out.br 2
      have f3 := Lib.frozen_of_heap Z.out.br 3
      simp only [List.getElem?_toArray, List.getElem?_cons_succ, List.getElem?_cons_zero] at s0 s1 s2 s3 r0 r1 r2 r3
      have B4 := Z.out.br.set4 (b0 := .bool false) (b1 := .map (some bv)) (b2 := .map none) (b3 := .map (some be))
      have hbt : But (w.heap.size + 2) wr ((((wr.setCell ⟨w.heap.size + 2, 0, none⟩ (.bool false)).setCell ⟨w.heap.size + 2, 1, none⟩ (.map (some bv))).setCell ⟨w.heap.size + 2, 2, none⟩ (.map none)).setCell ⟨w.heap.size + 2, 3, none⟩ (.map (some be))) := ((((But.refl _ wr).setCell _ _).setCell _ _).setCell _ _).setCell _ _
      have SC : Hid (ScAt ((((wr.setCell ⟨w.heap.size + 2, 0, none⟩ (.bool false)).setCell ⟨w.heap.size + 2, 1, none⟩ (.map (some bv))).setCell ⟨w.heap.size + 2, 2, none⟩ (.map none)).setCell ⟨w.heap.size + 2, 3, none⟩ (.map (some be))) (.map (some bv)) (.map none) (.map (some be)) (scoP ms p)) := (Z.out.sc).boxed Z.out.br hbt
      have HBF : Hid (Below w.heap.size w ((((wr.setCell ⟨w.heap.size + 2, 0, none⟩ (.bool false)).setCell ⟨w.heap.size + 2, 1, none⟩ (.map (some bv))).setCell ⟨w.heap.size + 2, 2, none⟩ (.map none)).setCell ⟨w.heap.size + 2, 3, none⟩ (.map (some be)))) := Z.out.bel.trans (hbt.bel.mono (by omega))
      have HB4 := hide B4
      clear B4 hbt
      go_wp2
      refine box_ret (p := 4) (ty := 87) (g := w.heap.size + 2) rfl rfl HB4.out _ Tryz.underlying87 rfl (by kernel_rfl) rfl ?_
      exact ⟨_, _, _, rfl, SC.out, HBF.out⟩
end Go.Proofs.YtpdpmnkonkpheaaGreat
