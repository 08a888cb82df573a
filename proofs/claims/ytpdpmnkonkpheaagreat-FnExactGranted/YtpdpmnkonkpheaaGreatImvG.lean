/-
  Walks of the program: scopes as sets of names; what is wrong with a node in a scope.
-/
import Derived.Test.YtpdpmnkonkpheaaGreatImvF
import Derived.Test.YtpdpmnkonkpheaaGreatTreeZ
import Derived.Test.YtpdpmnkonkpheaaGreatImpB
import Derived.Test.YtpdpmnkonkpheaaGreatAid
import Derived.Maps.OwnOps
namespace Go.Proofs.YtpdpmnkonkpheaaGreat
open Go.RowKit Go.Maps
open Go.WideMaps (keyOf_string_mk)

theorem zeroSet (w : World) : (zeroValue 84).run Tryz.prog w = .ok (.map none) w := by kernel_rfl
theorem keyN {s : ByteArray} (hs : s.size ≤ 1048576) : keyOf Tryz.prog 9 (.string s) = some (.string s.data.toList) := keyOf_string_mk Tryz.underlying9 (by unfold maxLen; omega)
/-- A set that may be none at all. -/
def MsAt (w : World) (v : Value) (ks : List ByteArray) : Prop := (v = .map none ∧ ks = []) ∨ ∃ b n, v = .map (some b) ∧ SetAt w b n ks
theorem SetAt.all {w w' : World} {b n : Nat} {ks : List ByteArray} (h : SetAt w b n ks) (hb : Below w.heap.size w w') : SetAt w' b n ks := h.stays hb h.lt
theorem MsAt.stays {w w' : World} {v : Value} {ks : List ByteArray} (h : MsAt w v ks) (hb : Below w.heap.size w w') : MsAt w' v ks := by
  rcases h with h | ⟨b, n, rfl, h⟩
  · exact .inl h
  · exact .inr ⟨b, n, rfl, h.all hb⟩
def mapElem : Value → Option (DataW Unit × List MemPlace)
  | .map none => some (.lit (.bool false), [])
  | .map (some b) => some (.lit (.int .i64 (b : Int)), [])
  | _ => none
theorem mapElem_inj {v u : Value} {d : DataW Unit} {p q : List MemPlace} (hv : mapElem v = some (d, p)) (hu : mapElem u = some (d, q)) : v = u := by
  unfold mapElem at hv hu
  split at hv <;> split at hu <;> simp_all
  · obtain ⟨rfl, _⟩ := hv
    cases hu.1
  · obtain ⟨rfl, _⟩ := hv
    cases hu.1
  · obtain ⟨rfl, _⟩ := hv
    have h := hu.1
    injection h with h
    injection h with _ h
    exact_mod_cast h.symm
/-- Sets by name: of each name its set. -/
def EsAt (w : World) (v : Value) (f : ByteArray → List ByteArray) : Prop := (v = .map none ∧ ∀ s, f s = []) ∨
  ∃ b n D, v = .map (some b) ∧ w.ownsMap Tryz.prog 9 mapElem b n D ∧ ∀ s : ByteArray, ∃ u, mapElem u = some (D.atKey (.string s.data.toList) (.lit (.bool false)), []) ∧ MsAt w u (f s)
theorem ownsMap_all {w w' : World} {b n : Nat} {D : DataW Unit} {R : Value → Option (DataW Unit × List MemPlace)} (h : w.ownsMap Tryz.prog 9 R b n D) (hb : Below w.heap.size w w') : w'.ownsMap Tryz.prog 9 R b n D := by
  have hl := h.lt
  obtain ⟨es, cl, q1, q2⟩ := h
  exact ⟨es, cl, (hb.block b hl).trans q1, q2⟩
theorem EsAt.stays {w w' : World} {v : Value} {f : ByteArray → List ByteArray} (h : EsAt w v f) (hb : Below w.heap.size w w') : EsAt w' v f := by
  rcases h with h | ⟨b, n, D, rfl, h1, h2⟩
  · exact .inl h
  · refine .inr ⟨b, n, D, rfl, ownsMap_all h1 hb, fun s => ?_⟩
    obtain ⟨u, h3, h4⟩ := h2 s
    exact ⟨u, h3, h4.stays hb⟩
theorem EsAt.look {w : World} {v : Value} {f : ByteArray → List ByteArray} (h : EsAt w v f) {s : ByteArray} (hs : s.size ≤ 1048576) : ∃ u, (Instr.lookup 85 v (.string s) false).run Tryz.prog w = .ok u w ∧ MsAt w u (f s) := by
  rcases h with ⟨rfl, h⟩ | ⟨b, n, D, rfl, h1, h2⟩
  · refine ⟨.map none, ?_, .inl ⟨rfl, h s⟩⟩
    have := Maps.look_nil (w := w) false lawN Tryz.underlying85 (zeroSet w) (keyN hs)
    exact this
  · obtain ⟨u, h3, h4⟩ := h2 s
    obtain ⟨u', ps, hrun, hu⟩ := h1.lookup lawN Tryz.underlying85 (zeroSet w) (zd := .lit (.bool false)) (zp := []) rfl (keyN hs)
    obtain rfl := mapElem_inj hu h3
    exact ⟨u', hrun, h4⟩

set_option maxRecDepth 100000 in
set_option maxHeartbeats 1000000 in
theorem hasM_any (v : Value) (ks : List ByteArray) (s : ByteArray) (w : World) (h : MsAt w v ks) (hs : s.size ≤ 1048576) :
    Calls Tryz.prog 92 #[v, .string s] w fun e w' => e = .returned (.bool (memB ks s)) ∧ Below w.heap.size w w' := by
  rcases h with ⟨rfl, rfl⟩ | ⟨b, n, rfl, h⟩
  · have hl := Maps.look_nil (w := w) true lawN Tryz.underlying84 (zeroN w) (keyN hs)
    simp only [if_true] at hl
    go_enter Tryz.func92, Tryz.ntmps92
    go_wp2
    go_ret
    exact ⟨rfl, (Below.refl _ _).alloc (Nat.le_refl _) _⟩
  · exact setHas_any b n ks s w h hs

/-- Which names may stand in a body. -/
structure Sco where
  inE : Bool
  vars : List ByteArray
  queues : List ByteArray
  ents : ByteArray → List ByteArray
structure ScAt (w : World) (va qa ea : Value) (s : Sco) : Prop where
  vars : MsAt w va s.vars
  queues : MsAt w qa s.queues
  ents : EsAt w ea s.ents
theorem ScAt.stays {w w' : World} {va qa ea : Value} {s : Sco} (h : ScAt w va qa ea s) (hb : Below w.heap.size w w') : ScAt w' va qa ea s := ⟨h.vars.stays hb, h.queues.stays hb, h.ents.stays hb⟩
def varS (s : Sco) (nm : ByteArray) : Int := if memB s.vars nm = true then 0 else 2
def queueS (s : Sco) (nm : ByteArray) : Int := if s.inE = true then (if memB s.queues nm = true then 0 else 3) else 5
def readS (s : Sco) (nm : ByteArray) : Int := if s.inE = true then 5 else varS s nm
def callS (s : Sco) (nm mo it : ByteArray) : Int := if s.inE = true then 5 else if it.toList.isEmpty = false ∧ memB s.vars it = false then 2 else if memB (s.ents nm) mo = true then 0 else 4
def codeS (s : Sco) (kd : Int) (nm mo it : ByteArray) : Int :=
  if kd = 2 ∨ kd = 11 then varS s nm else if kd = 16 then readS s nm else if kd = 14 then callS s nm mo it else if kd = 17 ∨ kd = 18 then queueS s nm else 0
theorem MsAt.is {w : World} {v : Value} {ks : List ByteArray} (h : MsAt w v ks) : ∃ m, v = .map m := by
  rcases h with ⟨rfl, _⟩ | ⟨b, n, rfl, _⟩
  · exact ⟨_, rfl⟩
  · exact ⟨_, rfl⟩
theorem EsAt.is {w : World} {v : Value} {f : ByteArray → List ByteArray} (h : EsAt w v f) : ∃ m, v = .map m := by
  rcases h with ⟨rfl, _⟩ | ⟨b, n, D, rfl, _⟩
  · exact ⟨_, rfl⟩
  · exact ⟨_, rfl⟩

set_option maxRecDepth 100000 in
set_option maxHeartbeats 1000000 in
theorem codeVar_any (va qa ea : Value) (s : Sco) (nm : ByteArray) (w : World) (h : ScAt w va qa ea s) (hn : nm.size ≤ 1048576) :
    Calls Tryz.prog 95 #[.agg #[.bool s.inE, va, qa, ea], .string nm] w fun e w' => e = .returned (.int .i64 (varS s nm)) ∧ Below w.heap.size w w' := by
  have hb : Below w.heap.size w (w.alloc (.cells #[.bool s.inE, va, qa, ea] 87)) := (Below.refl _ _).alloc (Nat.le_refl _) _
  have CH := hide (hasM_any va s.vars nm _ (h.vars.stays hb) hn)
  have HB := hide hb
  obtain ⟨m1, rfl⟩ := h.vars.is
  obtain ⟨m2, rfl⟩ := h.queues.is
  obtain ⟨m3, rfl⟩ := h.ents.is
  clear hb h
  unfold varS
  obtain ⟨i, ei⟩ : ∃ i, s.inE = i := ⟨_, rfl⟩
  rw [ei] at CH HB ⊢
  cases hq : memB s.vars nm with
  | true =>
    rw [hq] at CH
    rw [if_pos rfl]
    go_enter Tryz.func95, Tryz.ntmps95
    go_wp2_with (go_at_call 92; refine (unhide CH).mono ?_; rintro e w2 ⟨rfl, hb2⟩)
    go_ret
    exact ⟨rfl, HB.out.trans (hb2.mono HB.out.size)⟩
  | false =>
    rw [hq] at CH
    rw [if_neg (by decide)]
    go_enter Tryz.func95, Tryz.ntmps95
    go_wp2_with (go_at_call 92; refine (unhide CH).mono ?_; rintro e w2 ⟨rfl, hb2⟩)
    go_ret
    exact ⟨rfl, HB.out.trans (hb2.mono HB.out.size)⟩

set_option maxRecDepth 100000 in
set_option maxHeartbeats 1000000 in
theorem codeQueue_any (va qa ea : Value) (s : Sco) (nm : ByteArray) (w : World) (h : ScAt w va qa ea s) (hn : nm.size ≤ 1048576) :
    Calls Tryz.prog 98 #[.agg #[.bool s.inE, va, qa, ea], .string nm] w fun e w' => e = .returned (.int .i64 (queueS s nm)) ∧ Below w.heap.size w w' := by
  have hb : Below w.heap.size w (w.alloc (.cells #[.bool s.inE, va, qa, ea] 87)) := (Below.refl _ _).alloc (Nat.le_refl _) _
  have CH := hide (hasM_any qa s.queues nm _ (h.queues.stays hb) hn)
  have HB := hide hb
  obtain ⟨m1, rfl⟩ := h.vars.is
  obtain ⟨m2, rfl⟩ := h.queues.is
  obtain ⟨m3, rfl⟩ := h.ents.is
  clear hb h
  unfold queueS
  obtain ⟨i, ei⟩ : ∃ i, s.inE = i := ⟨_, rfl⟩
  rw [ei] at CH HB ⊢
  cases i with
  | false =>
    rw [if_neg (by decide)]
    clear CH
    go_enter Tryz.func98, Tryz.ntmps98
    go_wp2
    go_ret
    exact ⟨rfl, HB.out⟩
  | true =>
    rw [if_pos rfl]
    cases hq : memB s.queues nm with
    | true =>
      rw [hq] at CH
      rw [if_pos rfl]
      go_enter Tryz.func98, Tryz.ntmps98
      go_wp2_with (go_at_call 92; refine (unhide CH).mono ?_; rintro e w2 ⟨rfl, hb2⟩)
      go_ret
      exact ⟨rfl, HB.out.trans (hb2.mono HB.out.size)⟩
    | false =>
      rw [hq] at CH
      rw [if_neg (by decide)]
      go_enter Tryz.func98, Tryz.ntmps98
      go_wp2_with (go_at_call 92; refine (unhide CH).mono ?_; rintro e w2 ⟨rfl, hb2⟩)
      go_ret
      exact ⟨rfl, HB.out.trans (hb2.mono HB.out.size)⟩

set_option maxRecDepth 100000 in
set_option maxHeartbeats 1000000 in
theorem codeRead_any (va qa ea : Value) (s : Sco) (nm : ByteArray) (w : World) (h : ScAt w va qa ea s) (hn : nm.size ≤ 1048576) :
    Calls Tryz.prog 96 #[.agg #[.bool s.inE, va, qa, ea], .agg #[.string nm]] w fun e w' => e = .returned (.int .i64 (readS s nm)) ∧ Below w.heap.size w w' := by
  have hb : Below w.heap.size w ((w.alloc (.cells #[.bool s.inE, va, qa, ea] 87)).alloc (.cells #[.string nm] 141)) := ((Below.refl _ _).alloc (Nat.le_refl _) _).alloc ((Below.refl _ _).alloc (Nat.le_refl _) _).size _
  have CV := hide (codeVar_any va qa ea s nm _ (h.stays hb) hn)
  have HB := hide hb
  obtain ⟨m1, rfl⟩ := h.vars.is
  obtain ⟨m2, rfl⟩ := h.queues.is
  obtain ⟨m3, rfl⟩ := h.ents.is
  clear hb h
  unfold readS
  obtain ⟨r, er⟩ : ∃ r, varS s nm = r := ⟨_, rfl⟩
  rw [er] at CV ⊢
  obtain ⟨i, ei⟩ : ∃ i, s.inE = i := ⟨_, rfl⟩
  rw [ei] at CV HB ⊢
  clear ei er
  cases i with
  | true =>
    rw [if_pos rfl]
    clear CV
    go_enter Tryz.func96, Tryz.ntmps96
    go_wp2
    go_ret
    exact ⟨rfl, HB.out⟩
  | false =>
    rw [if_neg (by decide)]
    have bx := (Below.refl (w.alloc (.cells #[.bool false, .map m1, .map m2, .map m3] 87)).heap.size (w.alloc (.cells #[.bool false, .map m1, .map m2, .map m3] 87))).alloc (Nat.le_refl _) (.cells #[.string nm] 141)
    have BX := (Box.made w #[.bool false, .map m1, .map m2, .map m3] 87).stays bx
    have q0 := Lib.cell_of_heap BX 0
    have q1 := Lib.cell_of_heap BX 1
    have q2 := Lib.cell_of_heap BX 2
    have q3 := Lib.cell_of_heap BX 3
    simp only [List.getElem?_toArray, List.getElem?_cons_succ, List.getElem?_cons_zero] at q0 q1 q2 q3
    clear bx BX
    go_enter Tryz.func96, Tryz.ntmps96
    go_wp2_with (go_at_call 95; refine (unhide CV).mono ?_; rintro e w2 ⟨rfl, hb2⟩)
    go_ret
    exact ⟨rfl, HB.out.trans (hb2.mono HB.out.size)⟩

set_option maxRecDepth 100000 in
set_option maxHeartbeats 1000000 in
theorem codeCall_any (va qa ea : Value) (s : Sco) (nm mo it : ByteArray) (k : Int) (w : World) (h : ScAt w va qa ea s) (hn : nm.size ≤ 1048576) (hm : mo.size ≤ 1048576) (hi : it.size ≤ 1048576) :
    Calls Tryz.prog 97 #[.agg #[.bool s.inE, va, qa, ea], .agg #[.string nm, .string mo, .string it, .int .i64 k]] w fun e w' => e = .returned (.int .i64 (callS s nm mo it)) ∧ Below w.heap.size w w' := by
  have hb : Below w.heap.size w ((w.alloc (.cells #[.bool s.inE, va, qa, ea] 87)).alloc (.cells #[.string nm, .string mo, .string it, .int .i64 k] 118)) := ((Below.refl _ _).alloc (Nat.le_refl _) _).alloc ((Below.refl _ _).alloc (Nat.le_refl _) _).size _
  have CV := fun z hz => hide (hasM_any va s.vars it z hz hi)
  have CE := fun u z hz => hide (hasM_any u (s.ents nm) mo z hz hm)
  have H1 := hide (h.stays hb)
  have HB := hide hb
  obtain ⟨m1, rfl⟩ := h.vars.is
  obtain ⟨m2, rfl⟩ := h.queues.is
  obtain ⟨m3, rfl⟩ := h.ents.is
  clear hb h
  obtain ⟨R, eR⟩ : ∃ R, callS s nm mo it = R := ⟨_, rfl⟩
  have ER := hide eR
  rw [eR]
  clear eR
  unfold callS at ER
  obtain ⟨i, ei⟩ : ∃ i, s.inE = i := ⟨_, rfl⟩
  rw [ei] at HB H1 ER ⊢
  clear ei
  have bx := (Below.refl (w.alloc (.cells #[.bool i, .map m1, .map m2, .map m3] 87)).heap.size (w.alloc (.cells #[.bool i, .map m1, .map m2, .map m3] 87))).alloc (Nat.le_refl _) (.cells #[.string nm, .string mo, .string it, .int .i64 k] 118)
  have BX := hide ((Box.made w #[.bool i, .map m1, .map m2, .map m3] 87).stays bx)
  have BY := hide (Box.made (w.alloc (.cells #[.bool i, .map m1, .map m2, .map m3] 87)) #[.string nm, .string mo, .string it, .int .i64 k] 118)
  clear bx
  have hsz : (w.alloc (.cells #[.bool i, .map m1, .map m2, .map m3] 87)).heap.size = w.heap.size + 1 := by simp
  rw [hsz] at BY
  clear hsz
  cases i with
  | true =>
    have eR2 : R = 5 := by rw [← ER.out, if_pos rfl]
    subst eR2
    have q0 := Lib.cell_of_heap BX.out 0
    simp only [List.getElem?_toArray, List.getElem?_cons_zero] at q0
    clear CV CE
    go_enter Tryz.func97, Tryz.ntmps97
    go_wp2
    go_ret
    exact ⟨rfl, HB.out⟩
  | false =>
    have ER2 : Hid ((if it.toList.isEmpty = false ∧ memB s.vars it = false then 2 else if memB (s.ents nm) mo = true then 0 else 4) = R) := by
      have h := ER.out
      rw [if_neg (show ¬ (false = true) by decide)] at h
      exact h
    clear ER
    cases h3 : it.toList.isEmpty with
    | true =>
      have h3' : it.toList = [] := by simpa using h3
      have HQ : Hid (¬ (it.toList.isEmpty = false ∧ memB s.vars it = false)) := fun h => by rw [h3] at h; cases h.1
      clear CV
      have q0 := Lib.cell_of_heap BX.out 0
      have q1 := Lib.cell_of_heap BX.out 1
      have q3 := Lib.cell_of_heap BX.out 3
      have r0 := Lib.cell_of_heap BY.out 0
      have r1 := Lib.cell_of_heap BY.out 1
      have r2 := Lib.cell_of_heap BY.out 2
      simp only [List.getElem?_toArray, List.getElem?_cons_succ, List.getElem?_cons_zero] at q0 q1 q3 r0 r1 r2
      obtain ⟨u, hl, hu⟩ := H1.out.ents.look hn
      have CE1 := CE u _ hu
      clear hu
      cases hq : memB (s.ents nm) mo with
      | true =>
        rw [hq] at CE1
        have eR2 : R = 0 := by rw [← ER2.out, if_neg HQ.out, if_pos hq]
        subst eR2
        clear hq
        go_enter Tryz.func97, Tryz.ntmps97
        go_wp2_with (go_at_call 92; refine (unhide CE1).mono ?_; rintro e w3 ⟨rfl, hb3⟩)
        go_ret
        exact ⟨rfl, HB.out.trans (hb3.mono HB.out.size)⟩
      | false =>
        rw [hq] at CE1
        have eR2 : R = 4 := by rw [← ER2.out, if_neg HQ.out, if_neg (by rw [hq]; decide)]
        subst eR2
        clear hq
        go_enter Tryz.func97, Tryz.ntmps97
        go_wp2_with (go_at_call 92; refine (unhide CE1).mono ?_; rintro e w3 ⟨rfl, hb3⟩)
        go_ret
        exact ⟨rfl, HB.out.trans (hb3.mono HB.out.size)⟩
    | false =>
      have h3' : ¬ it.toList = [] := by simpa using h3
      have CV1 := CV _ H1.out.vars
      clear CV
      have q0 := Lib.cell_of_heap BX.out 0
      have q1 := Lib.cell_of_heap BX.out 1
      have q3 := Lib.cell_of_heap BX.out 3
      have r0 := Lib.cell_of_heap BY.out 0
      have r1 := Lib.cell_of_heap BY.out 1
      have r2 := Lib.cell_of_heap BY.out 2
      simp only [List.getElem?_toArray, List.getElem?_cons_succ, List.getElem?_cons_zero] at q0 q1 q3 r0 r1 r2
      cases hv : memB s.vars it with
      | false =>
        rw [hv] at CV1
        have eR2 : R = 2 := by rw [← ER2.out, if_pos ⟨h3, hv⟩]
        subst eR2
        clear hv CE
        go_enter Tryz.func97, Tryz.ntmps97
        go_wp2_with (go_at_call 92; refine (unhide CV1).mono ?_; rintro e w2 ⟨rfl, hb2⟩)
        go_ret
        exact ⟨rfl, HB.out.trans (hb2.mono HB.out.size)⟩
      | true =>
        rw [hv] at CV1
        have HQ : Hid (¬ (it.toList.isEmpty = false ∧ memB s.vars it = false)) := fun h => by rw [hv] at h; cases h.2
        clear hv
        go_enter Tryz.func97, Tryz.ntmps97
        go_wp2_with fail
        refine (unhide CV1).mono ?_
        rintro e w2 ⟨rfl, hb2⟩
        have H2 := hide (H1.out.stays hb2)
        have HB2 := hide (HB.out.trans (hb2.mono HB.out.size))
        have BX2 := hide (BX.out.stays hb2)
        have BY2 := hide (BY.out.stays hb2)
        clear hb2 q0 q1 q3 r0 r1 r2 H1 HB BX BY CV1
        have q0 := Lib.cell_of_heap BX2.out 0
        have q1 := Lib.cell_of_heap BX2.out 1
        have q3 := Lib.cell_of_heap BX2.out 3
        have r0 := Lib.cell_of_heap BY2.out 0
        have r1 := Lib.cell_of_heap BY2.out 1
        have r2 := Lib.cell_of_heap BY2.out 2
        simp only [List.getElem?_toArray, List.getElem?_cons_succ, List.getElem?_cons_zero] at q0 q1 q3 r0 r1 r2
        obtain ⟨u, hl, hu⟩ := H2.out.ents.look hn
        have CE1 := CE u _ hu
        clear hu
        cases hq : memB (s.ents nm) mo with
        | true =>
          rw [hq] at CE1
          have eR2 : R = 0 := by rw [← ER2.out, if_neg HQ.out, if_pos hq]
          subst eR2
          clear hq
          go_wp2_with (go_at_call 92; refine (unhide CE1).mono ?_; rintro e w3 ⟨rfl, hb3⟩)
          go_ret
          exact ⟨rfl, HB2.out.trans (hb3.mono HB2.out.size)⟩
        | false =>
          rw [hq] at CE1
          have eR2 : R = 4 := by rw [← ER2.out, if_neg HQ.out, if_neg (by rw [hq]; decide)]
          subst eR2
          clear hq
          go_wp2_with (go_at_call 92; refine (unhide CE1).mono ?_; rintro e w3 ⟨rfl, hb3⟩)
          go_ret
          exact ⟨rfl, HB2.out.trans (hb3.mono HB2.out.size)⟩
end Go.Proofs.YtpdpmnkonkpheaaGreat

namespace Go.Proofs.YtpdpmnkonkpheaaGreat
open Go.RowKit

set_option maxRecDepth 100000 in
set_option maxHeartbeats 4000000 in
theorem codeOf_any (va qa ea : Value) (s : Sco) (kd nu : Int) (nm mo it : ByteArray) (kv : Value) (ks : List Int) (w : World) (h : ScAt w va qa ea s) (hk : ∃ o n c, kv = .slice o n c) (hn : nm.size ≤ 1048576) (hm : mo.size ≤ 1048576) (hi : it.size ≤ 1048576) :
    Calls Tryz.prog 75 #[.agg #[.bool s.inE, va, qa, ea], typedV kd nu nm mo it kv ks] w fun e w' => e = .returned (.int .i64 (codeS s kd nm mo it)) ∧ Below w.heap.size w w' := by
  have hb : Below w.heap.size w (w.alloc (.cells #[.bool s.inE, va, qa, ea] 87)) := (Below.refl _ _).alloc (Nat.le_refl _) _
  have CV := fun z hz => hide (codeVar_any va qa ea s nm z hz hn)
  have CQ := fun z hz => hide (codeQueue_any va qa ea s nm z hz hn)
  have CR := fun z hz => hide (codeRead_any va qa ea s nm z hz hn)
  have CC := fun k z hz => hide (codeCall_any va qa ea s nm mo it k z hz hn hm hi)
  have H1 := hide (h.stays hb)
  have HB := hide hb
  have BX := hide (Box.made w #[.bool s.inE, va, qa, ea] 87)
  have BS := fun o => hide ((Below.refl (w.alloc (.cells #[.bool s.inE, va, qa, ea] 87)).heap.size (w.alloc (.cells #[.bool s.inE, va, qa, ea] 87))).alloc (Nat.le_refl _) o)
  obtain ⟨m1, rfl⟩ := h.vars.is
  obtain ⟨m2, rfl⟩ := h.queues.is
  obtain ⟨m3, rfl⟩ := h.ents.is
  obtain ⟨ko, kn, kc, rfl⟩ := hk
  clear hb h hn hm hi
  obtain ⟨i, ei⟩ : ∃ i, s.inE = i := ⟨_, rfl⟩
  rw [ei] at H1 HB CV CQ CR CC BX BS ⊢
  clear ei
  by_cases h0 : kd = 1
  · subst h0
    have e : codeS s 1 nm mo it = 0 := rfl
    rw [e]
    have e : typedV 1 nu nm mo it (.slice ko kn kc) ks = .iface 147 (.agg #[.int .i64 nu]) := rfl
    rw [e]
    clear e
    have y0 := fun w => off_varNode 147 (.agg #[.int .i64 nu]) w (by decide)
    have y1 := fun w => off_setNode 147 (.agg #[.int .i64 nu]) w (by decide)
    have y2 := fun w => off_readNode 147 (.agg #[.int .i64 nu]) w (by decide)
    have y3 := fun w => off_callNode 147 (.agg #[.int .i64 nu]) w (by decide)
    have y4 := fun w => off_delayNode 147 (.agg #[.int .i64 nu]) w (by decide)
    have y5 := fun w => off_contNode 147 (.agg #[.int .i64 nu]) w (by decide)
    clear CV CQ CR CC BS
    go_enter Tryz.func75, Tryz.ntmps75
    go_wp2
    go_ret
    exact ⟨rfl, HB.out⟩
  by_cases h1 : kd = 2
  · subst h1
    have e : codeS s 2 nm mo it = varS s nm := rfl
    rw [e]
    have e : typedV 2 nu nm mo it (.slice ko kn kc) ks = .iface 137 (.agg #[.string nm]) := rfl
    rw [e]
    clear e
    have y0 := fun w => on_varNode (.agg #[.string nm]) w
    have b1 := BS (.cells #[.string nm] 137)
    have C1 := CV _ (H1.out.stays b1.out)
    have HB1 := hide (HB.out.trans (b1.out.mono HB.out.size))
    have B1 := BX.out.stays b1.out
    have q0 := Lib.cell_of_heap B1 0
    have q1 := Lib.cell_of_heap B1 1
    have q2 := Lib.cell_of_heap B1 2
    have q3 := Lib.cell_of_heap B1 3
    simp only [List.getElem?_toArray, List.getElem?_cons_succ, List.getElem?_cons_zero] at q0 q1 q2 q3
    obtain ⟨R, eR⟩ : ∃ R, varS s nm = R := ⟨_, rfl⟩
    rw [eR] at C1 ⊢
    clear B1 b1 CV CQ CR CC BS eR
    go_enter Tryz.func75, Tryz.ntmps75
    go_wp2_with (go_at_call 95; refine (unhide C1).mono ?_; rintro e w2 ⟨rfl, hb2⟩)
    go_ret
    exact ⟨rfl, HB1.out.trans (hb2.mono HB1.out.size)⟩
  by_cases h2 : kd = 3
  · subst h2
    have e : codeS s 3 nm mo it = 0 := rfl
    rw [e]
    have e : typedV 3 nu nm mo it (.slice ko kn kc) ks = .iface 150 (.agg #[.int .i64 nu, .int .i64 (ks[0]?.getD (-1)), .int .i64 (ks[1]?.getD (-1))]) := rfl
    rw [e]
    clear e
    have y0 := fun w => off_varNode 150 (.agg #[.int .i64 nu, .int .i64 (ks[0]?.getD (-1)), .int .i64 (ks[1]?.getD (-1))]) w (by decide)
    have y1 := fun w => off_setNode 150 (.agg #[.int .i64 nu, .int .i64 (ks[0]?.getD (-1)), .int .i64 (ks[1]?.getD (-1))]) w (by decide)
    have y2 := fun w => off_readNode 150 (.agg #[.int .i64 nu, .int .i64 (ks[0]?.getD (-1)), .int .i64 (ks[1]?.getD (-1))]) w (by decide)
    have y3 := fun w => off_callNode 150 (.agg #[.int .i64 nu, .int .i64 (ks[0]?.getD (-1)), .int .i64 (ks[1]?.getD (-1))]) w (by decide)
    have y4 := fun w => off_delayNode 150 (.agg #[.int .i64 nu, .int .i64 (ks[0]?.getD (-1)), .int .i64 (ks[1]?.getD (-1))]) w (by decide)
    have y5 := fun w => off_contNode 150 (.agg #[.int .i64 nu, .int .i64 (ks[0]?.getD (-1)), .int .i64 (ks[1]?.getD (-1))]) w (by decide)
    clear CV CQ CR CC BS
    go_enter Tryz.func75, Tryz.ntmps75
    go_wp2
    go_ret
    exact ⟨rfl, HB.out⟩
  by_cases h3 : kd = 4
  · subst h3
    have e : codeS s 4 nm mo it = 0 := rfl
    rw [e]
    have e : typedV 4 nu nm mo it (.slice ko kn kc) ks = .iface 152 (.agg #[.int .i64 (ks[0]?.getD (-1))]) := rfl
    rw [e]
    clear e
    have y0 := fun w => off_varNode 152 (.agg #[.int .i64 (ks[0]?.getD (-1))]) w (by decide)
    have y1 := fun w => off_setNode 152 (.agg #[.int .i64 (ks[0]?.getD (-1))]) w (by decide)
    have y2 := fun w => off_readNode 152 (.agg #[.int .i64 (ks[0]?.getD (-1))]) w (by decide)
    have y3 := fun w => off_callNode 152 (.agg #[.int .i64 (ks[0]?.getD (-1))]) w (by decide)
    have y4 := fun w => off_delayNode 152 (.agg #[.int .i64 (ks[0]?.getD (-1))]) w (by decide)
    have y5 := fun w => off_contNode 152 (.agg #[.int .i64 (ks[0]?.getD (-1))]) w (by decide)
    clear CV CQ CR CC BS
    go_enter Tryz.func75, Tryz.ntmps75
    go_wp2
    go_ret
    exact ⟨rfl, HB.out⟩
  by_cases h4 : kd = 5
  · subst h4
    have e : codeS s 5 nm mo it = 0 := rfl
    rw [e]
    have e : typedV 5 nu nm mo it (.slice ko kn kc) ks = .iface 153 (.agg #[.int .i64 (ks[0]?.getD (-1))]) := rfl
    rw [e]
    clear e
    have y0 := fun w => off_varNode 153 (.agg #[.int .i64 (ks[0]?.getD (-1))]) w (by decide)
    have y1 := fun w => off_setNode 153 (.agg #[.int .i64 (ks[0]?.getD (-1))]) w (by decide)
    have y2 := fun w => off_readNode 153 (.agg #[.int .i64 (ks[0]?.getD (-1))]) w (by decide)
    have y3 := fun w => off_callNode 153 (.agg #[.int .i64 (ks[0]?.getD (-1))]) w (by decide)
    have y4 := fun w => off_delayNode 153 (.agg #[.int .i64 (ks[0]?.getD (-1))]) w (by decide)
    have y5 := fun w => off_contNode 153 (.agg #[.int .i64 (ks[0]?.getD (-1))]) w (by decide)
    clear CV CQ CR CC BS
    go_enter Tryz.func75, Tryz.ntmps75
    go_wp2
    go_ret
    exact ⟨rfl, HB.out⟩
  by_cases h5 : kd = 11
  · subst h5
    have e : codeS s 11 nm mo it = varS s nm := rfl
    rw [e]
    have e : typedV 11 nu nm mo it (.slice ko kn kc) ks = .iface 140 (.agg #[.string nm, .int .i64 (ks[0]?.getD (-1))]) := rfl
    rw [e]
    clear e
    have y0 := fun w => off_varNode 140 (.agg #[.string nm, .int .i64 (ks[0]?.getD (-1))]) w (by decide)
    have y1 := fun w => on_setNode (.agg #[.string nm, .int .i64 (ks[0]?.getD (-1))]) w
    have b1 := BS (.cells #[.string nm, .int .i64 (ks[0]?.getD (-1))] 140)
    have C1 := CV _ (H1.out.stays b1.out)
    have HB1 := hide (HB.out.trans (b1.out.mono HB.out.size))
    have B1 := BX.out.stays b1.out
    have q0 := Lib.cell_of_heap B1 0
    have q1 := Lib.cell_of_heap B1 1
    have q2 := Lib.cell_of_heap B1 2
    have q3 := Lib.cell_of_heap B1 3
    simp only [List.getElem?_toArray, List.getElem?_cons_succ, List.getElem?_cons_zero] at q0 q1 q2 q3
    obtain ⟨R, eR⟩ : ∃ R, varS s nm = R := ⟨_, rfl⟩
    rw [eR] at C1 ⊢
    clear B1 b1 CV CQ CR CC BS eR
    go_enter Tryz.func75, Tryz.ntmps75
    go_wp2_with (go_at_call 95; refine (unhide C1).mono ?_; rintro e w2 ⟨rfl, hb2⟩)
    go_ret
    exact ⟨rfl, HB1.out.trans (hb2.mono HB1.out.size)⟩
  by_cases h6 : kd = 12
  · subst h6
    have e : codeS s 12 nm mo it = 0 := rfl
    rw [e]
    have e : typedV 12 nu nm mo it (.slice ko kn kc) ks = .iface 155 (.agg #[.int .i64 (ks[0]?.getD (-1)), .int .i64 (ks[1]?.getD (-1)), .int .i64 (ks[2]?.getD (-1))]) := rfl
    rw [e]
    clear e
    have y0 := fun w => off_varNode 155 (.agg #[.int .i64 (ks[0]?.getD (-1)), .int .i64 (ks[1]?.getD (-1)), .int .i64 (ks[2]?.getD (-1))]) w (by decide)
    have y1 := fun w => off_setNode 155 (.agg #[.int .i64 (ks[0]?.getD (-1)), .int .i64 (ks[1]?.getD (-1)), .int .i64 (ks[2]?.getD (-1))]) w (by decide)
    have y2 := fun w => off_readNode 155 (.agg #[.int .i64 (ks[0]?.getD (-1)), .int .i64 (ks[1]?.getD (-1)), .int .i64 (ks[2]?.getD (-1))]) w (by decide)
    have y3 := fun w => off_callNode 155 (.agg #[.int .i64 (ks[0]?.getD (-1)), .int .i64 (ks[1]?.getD (-1)), .int .i64 (ks[2]?.getD (-1))]) w (by decide)
    have y4 := fun w => off_delayNode 155 (.agg #[.int .i64 (ks[0]?.getD (-1)), .int .i64 (ks[1]?.getD (-1)), .int .i64 (ks[2]?.getD (-1))]) w (by decide)
    have y5 := fun w => off_contNode 155 (.agg #[.int .i64 (ks[0]?.getD (-1)), .int .i64 (ks[1]?.getD (-1)), .int .i64 (ks[2]?.getD (-1))]) w (by decide)
    clear CV CQ CR CC BS
    go_enter Tryz.func75, Tryz.ntmps75
    go_wp2
    go_ret
    exact ⟨rfl, HB.out⟩
  by_cases h7 : kd = 13
  · subst h7
    have e : codeS s 13 nm mo it = 0 := rfl
    rw [e]
    have e : typedV 13 nu nm mo it (.slice ko kn kc) ks = .iface 157 (.agg #[.int .i64 (ks[0]?.getD (-1)), .int .i64 (ks[1]?.getD (-1))]) := rfl
    rw [e]
    clear e
    have y0 := fun w => off_varNode 157 (.agg #[.int .i64 (ks[0]?.getD (-1)), .int .i64 (ks[1]?.getD (-1))]) w (by decide)
    have y1 := fun w => off_setNode 157 (.agg #[.int .i64 (ks[0]?.getD (-1)), .int .i64 (ks[1]?.getD (-1))]) w (by decide)
    have y2 := fun w => off_readNode 157 (.agg #[.int .i64 (ks[0]?.getD (-1)), .int .i64 (ks[1]?.getD (-1))]) w (by decide)
    have y3 := fun w => off_callNode 157 (.agg #[.int .i64 (ks[0]?.getD (-1)), .int .i64 (ks[1]?.getD (-1))]) w (by decide)
    have y4 := fun w => off_delayNode 157 (.agg #[.int .i64 (ks[0]?.getD (-1)), .int .i64 (ks[1]?.getD (-1))]) w (by decide)
    have y5 := fun w => off_contNode 157 (.agg #[.int .i64 (ks[0]?.getD (-1)), .int .i64 (ks[1]?.getD (-1))]) w (by decide)
    clear CV CQ CR CC BS
    go_enter Tryz.func75, Tryz.ntmps75
    go_wp2
    go_ret
    exact ⟨rfl, HB.out⟩
  by_cases h8 : kd = 14
  · subst h8
    have e : codeS s 14 nm mo it = callS s nm mo it := rfl
    rw [e]
    have e : typedV 14 nu nm mo it (.slice ko kn kc) ks = .iface 118 (.agg #[.string nm, .string mo, .string it, .int .i64 (ks[0]?.getD (-1))]) := rfl
    rw [e]
    clear e
    have y0 := fun w => off_varNode 118 (.agg #[.string nm, .string mo, .string it, .int .i64 (ks[0]?.getD (-1))]) w (by decide)
    have y1 := fun w => off_setNode 118 (.agg #[.string nm, .string mo, .string it, .int .i64 (ks[0]?.getD (-1))]) w (by decide)
    have y2 := fun w => off_readNode 118 (.agg #[.string nm, .string mo, .string it, .int .i64 (ks[0]?.getD (-1))]) w (by decide)
    have y3 := fun w => on_callNode (.agg #[.string nm, .string mo, .string it, .int .i64 (ks[0]?.getD (-1))]) w
    have b1 := BS (.cells #[.string nm, .string mo, .string it, .int .i64 (ks[0]?.getD (-1))] 118)
    have C1 := CC (ks[0]?.getD (-1)) _ (H1.out.stays b1.out)
    have HB1 := hide (HB.out.trans (b1.out.mono HB.out.size))
    have B1 := BX.out.stays b1.out
    have q0 := Lib.cell_of_heap B1 0
    have q1 := Lib.cell_of_heap B1 1
    have q2 := Lib.cell_of_heap B1 2
    have q3 := Lib.cell_of_heap B1 3
    simp only [List.getElem?_toArray, List.getElem?_cons_succ, List.getElem?_cons_zero] at q0 q1 q2 q3
    obtain ⟨R, eR⟩ : ∃ R, callS s nm mo it = R := ⟨_, rfl⟩
    rw [eR] at C1 ⊢
    clear B1 b1 CV CQ CR CC BS eR
    go_enter Tryz.func75, Tryz.ntmps75
    go_wp2_with (go_at_call 97; refine (unhide C1).mono ?_; rintro e w2 ⟨rfl, hb2⟩)
    go_ret
    exact ⟨rfl, HB1.out.trans (hb2.mono HB1.out.size)⟩
  by_cases h9 : kd = 15
  · subst h9
    have e : codeS s 15 nm mo it = 0 := rfl
    rw [e]
    have e : typedV 15 nu nm mo it (.slice ko kn kc) ks = .iface 159 (.agg #[.int .i64 (ks[0]?.getD (-1))]) := rfl
    rw [e]
    clear e
    have y0 := fun w => off_varNode 159 (.agg #[.int .i64 (ks[0]?.getD (-1))]) w (by decide)
    have y1 := fun w => off_setNode 159 (.agg #[.int .i64 (ks[0]?.getD (-1))]) w (by decide)
    have y2 := fun w => off_readNode 159 (.agg #[.int .i64 (ks[0]?.getD (-1))]) w (by decide)
    have y3 := fun w => off_callNode 159 (.agg #[.int .i64 (ks[0]?.getD (-1))]) w (by decide)
    have y4 := fun w => off_delayNode 159 (.agg #[.int .i64 (ks[0]?.getD (-1))]) w (by decide)
    have y5 := fun w => off_contNode 159 (.agg #[.int .i64 (ks[0]?.getD (-1))]) w (by decide)
    clear CV CQ CR CC BS
    go_enter Tryz.func75, Tryz.ntmps75
    go_wp2
    go_ret
    exact ⟨rfl, HB.out⟩
  by_cases h10 : kd = 16
  · subst h10
    have e : codeS s 16 nm mo it = readS s nm := rfl
    rw [e]
    have e : typedV 16 nu nm mo it (.slice ko kn kc) ks = .iface 141 (.agg #[.string nm]) := rfl
    rw [e]
    clear e
    have y0 := fun w => off_varNode 141 (.agg #[.string nm]) w (by decide)
    have y1 := fun w => off_setNode 141 (.agg #[.string nm]) w (by decide)
    have y2 := fun w => on_readNode (.agg #[.string nm]) w
    have b1 := BS (.cells #[.string nm] 141)
    have C1 := CR _ (H1.out.stays b1.out)
    have HB1 := hide (HB.out.trans (b1.out.mono HB.out.size))
    have B1 := BX.out.stays b1.out
    have q0 := Lib.cell_of_heap B1 0
    have q1 := Lib.cell_of_heap B1 1
    have q2 := Lib.cell_of_heap B1 2
    have q3 := Lib.cell_of_heap B1 3
    simp only [List.getElem?_toArray, List.getElem?_cons_succ, List.getElem?_cons_zero] at q0 q1 q2 q3
    obtain ⟨R, eR⟩ : ∃ R, readS s nm = R := ⟨_, rfl⟩
    rw [eR] at C1 ⊢
    clear B1 b1 CV CQ CR CC BS eR
    go_enter Tryz.func75, Tryz.ntmps75
    go_wp2_with (go_at_call 96; refine (unhide C1).mono ?_; rintro e w2 ⟨rfl, hb2⟩)
    go_ret
    exact ⟨rfl, HB1.out.trans (hb2.mono HB1.out.size)⟩
  by_cases h11 : kd = 17
  · subst h11
    have e : codeS s 17 nm mo it = queueS s nm := rfl
    rw [e]
    have e : typedV 17 nu nm mo it (.slice ko kn kc) ks = .iface 144 (.agg #[.string nm]) := rfl
    rw [e]
    clear e
    have y0 := fun w => off_varNode 144 (.agg #[.string nm]) w (by decide)
    have y1 := fun w => off_setNode 144 (.agg #[.string nm]) w (by decide)
    have y2 := fun w => off_readNode 144 (.agg #[.string nm]) w (by decide)
    have y3 := fun w => off_callNode 144 (.agg #[.string nm]) w (by decide)
    have y4 := fun w => on_delayNode (.agg #[.string nm]) w
    have b1 := BS (.cells #[.string nm] 144)
    have C1 := CQ _ (H1.out.stays b1.out)
    have HB1 := hide (HB.out.trans (b1.out.mono HB.out.size))
    have B1 := BX.out.stays b1.out
    have q0 := Lib.cell_of_heap B1 0
    have q1 := Lib.cell_of_heap B1 1
    have q2 := Lib.cell_of_heap B1 2
    have q3 := Lib.cell_of_heap B1 3
    simp only [List.getElem?_toArray, List.getElem?_cons_succ, List.getElem?_cons_zero] at q0 q1 q2 q3
    obtain ⟨R, eR⟩ : ∃ R, queueS s nm = R := ⟨_, rfl⟩
    rw [eR] at C1 ⊢
    clear B1 b1 CV CQ CR CC BS eR
    go_enter Tryz.func75, Tryz.ntmps75
    go_wp2_with (go_at_call 98; refine (unhide C1).mono ?_; rintro e w2 ⟨rfl, hb2⟩)
    go_ret
    exact ⟨rfl, HB1.out.trans (hb2.mono HB1.out.size)⟩
  by_cases h12 : kd = 18
  · subst h12
    have e : codeS s 18 nm mo it = queueS s nm := rfl
    rw [e]
    have e : typedV 18 nu nm mo it (.slice ko kn kc) ks = .iface 145 (.agg #[.string nm]) := rfl
    rw [e]
    clear e
    have y0 := fun w => off_varNode 145 (.agg #[.string nm]) w (by decide)
    have y1 := fun w => off_setNode 145 (.agg #[.string nm]) w (by decide)
    have y2 := fun w => off_readNode 145 (.agg #[.string nm]) w (by decide)
    have y3 := fun w => off_callNode 145 (.agg #[.string nm]) w (by decide)
    have y4 := fun w => off_delayNode 145 (.agg #[.string nm]) w (by decide)
    have y5 := fun w => on_contNode (.agg #[.string nm]) w
    have b1 := BS (.cells #[.string nm] 145)
    have C1 := CQ _ (H1.out.stays b1.out)
    have HB1 := hide (HB.out.trans (b1.out.mono HB.out.size))
    have B1 := BX.out.stays b1.out
    have q0 := Lib.cell_of_heap B1 0
    have q1 := Lib.cell_of_heap B1 1
    have q2 := Lib.cell_of_heap B1 2
    have q3 := Lib.cell_of_heap B1 3
    simp only [List.getElem?_toArray, List.getElem?_cons_succ, List.getElem?_cons_zero] at q0 q1 q2 q3
    obtain ⟨R, eR⟩ : ∃ R, queueS s nm = R := ⟨_, rfl⟩
    rw [eR] at C1 ⊢
    clear B1 b1 CV CQ CR CC BS eR
    go_enter Tryz.func75, Tryz.ntmps75
    go_wp2_with (go_at_call 98; refine (unhide C1).mono ?_; rintro e w2 ⟨rfl, hb2⟩)
    go_ret
    exact ⟨rfl, HB1.out.trans (hb2.mono HB1.out.size)⟩
  by_cases h13 : kd = 19
  · subst h13
    have e : codeS s 19 nm mo it = 0 := rfl
    rw [e]
    have e : typedV 19 nu nm mo it (.slice ko kn kc) ks = .iface 160 (.agg #[]) := rfl
    rw [e]
    clear e
    have y0 := fun w => off_varNode 160 (.agg #[]) w (by decide)
    have y1 := fun w => off_setNode 160 (.agg #[]) w (by decide)
    have y2 := fun w => off_readNode 160 (.agg #[]) w (by decide)
    have y3 := fun w => off_callNode 160 (.agg #[]) w (by decide)
    have y4 := fun w => off_delayNode 160 (.agg #[]) w (by decide)
    have y5 := fun w => off_contNode 160 (.agg #[]) w (by decide)
    clear CV CQ CR CC BS
    go_enter Tryz.func75, Tryz.ntmps75
    go_wp2
    go_ret
    exact ⟨rfl, HB.out⟩
  by_cases h14 : kd = 20
  · subst h14
    have e : codeS s 20 nm mo it = 0 := rfl
    rw [e]
    have e : typedV 20 nu nm mo it (.slice ko kn kc) ks = .iface 162 (.agg #[.slice ko kn kc]) := rfl
    rw [e]
    clear e
    have y0 := fun w => off_varNode 162 (.agg #[.slice ko kn kc]) w (by decide)
    have y1 := fun w => off_setNode 162 (.agg #[.slice ko kn kc]) w (by decide)
    have y2 := fun w => off_readNode 162 (.agg #[.slice ko kn kc]) w (by decide)
    have y3 := fun w => off_callNode 162 (.agg #[.slice ko kn kc]) w (by decide)
    have y4 := fun w => off_delayNode 162 (.agg #[.slice ko kn kc]) w (by decide)
    have y5 := fun w => off_contNode 162 (.agg #[.slice ko kn kc]) w (by decide)
    clear CV CQ CR CC BS
    go_enter Tryz.func75, Tryz.ntmps75
    go_wp2
    go_ret
    exact ⟨rfl, HB.out⟩
  have e : codeS s kd nm mo it = 0 := by
    unfold codeS
    rw [if_neg (by omega), if_neg (by omega), if_neg (by omega), if_neg (by omega)]
  rw [e]
  have e : typedV kd nu nm mo it (.slice ko kn kc) ks = .nilIface := by
    unfold typedV
    simp only [h0, h1, h2, h3, h4, h5, h6, h7, h8, h9, h10, h11, h12, h13, h14, if_false]
  rw [e]
  clear e CV CQ CR CC BS
  have y0 := fun w => nil_varNode w
  have y1 := fun w => nil_setNode w
  have y2 := fun w => nil_readNode w
  have y3 := fun w => nil_callNode w
  have y4 := fun w => nil_delayNode w
  have y5 := fun w => nil_contNode w
  clear h0 h1 h2 h3 h4 h5 h6 h7 h8 h9 h10 h11 h12 h13 h14
  go_enter Tryz.func75, Tryz.ntmps75
  go_wp2
  go_ret
  exact ⟨rfl, HB.out⟩
end Go.Proofs.YtpdpmnkonkpheaaGreat
