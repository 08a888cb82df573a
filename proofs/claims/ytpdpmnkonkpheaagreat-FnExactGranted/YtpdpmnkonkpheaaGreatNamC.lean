/-
  Walks of the program: the names of monitors in the calls of a body.
-/
import Derived.Test.YtpdpmnkonkpheaaGreatImvJ
import Derived.Test.YtpdpmnkonkpheaaGreatImpQ
import Derived.Test.YtpdpmnkonkpheaaGreatPurS
import Derived.Test.YtpdpmnkonkpheaaGreatTreeV
import Derived.Test.YtpdpmnkonkpheaaGreatPureP
import Derived.Test.YtpdpmnkonkpheaaGreatImvF
namespace Go.Proofs.YtpdpmnkonkpheaaGreat
open Go.RowKit

/-- The names of calls among these places. -/
def callN (ns : List Nd) (ls : List Int) : List ByteArray := (ls.filter fun k => decide ((ns.getD k.toNat default).kind = 14)).map fun k => (ns.getD k.toNat default).name
theorem callN_snoc (ns : List Nd) (ls : List Int) (k : Int) : callN ns (ls ++ [k]) = callN ns ls ++ callN ns [k] := by simp [callN]
theorem callN_yes {ns : List Nd} {ls : List Int} {k : Int} (h : (ns.getD k.toNat default).kind = 14) : callN ns (ls ++ [k]) = callN ns ls ++ [(ns.getD k.toNat default).name] := by
  rw [callN_snoc]
  congr 1
  unfold callN
  rw [List.filter_cons, if_pos (by simpa using h)]
  rfl
theorem callN_no {ns : List Nd} {ls : List Int} {k : Int} (h : (ns.getD k.toNat default).kind ≠ 14) : callN ns (ls ++ [k]) = callN ns ls := by
  rw [callN_snoc]
  unfold callN
  rw [show List.filter (fun k : Int => decide ((ns.getD k.toNat default).kind = 14)) [k] = [] from by rw [List.filter_cons, if_neg (by simpa using h)]; rfl]
  simp
theorem callN_len (ns : List Nd) (ls : List Int) : (callN ns ls).length ≤ ls.length := by
  unfold callN
  rw [List.length_map]
  exact List.length_filter_le _ _
theorem callOn (nu : Int) (nm mo it : ByteArray) (kv : Value) (ks : List Int) (w : World) : (Instr.typeAssert (typedV 14 nu nm mo it kv ks) 114 118 true).run Tryz.prog w = .ok (.tuple #[.agg #[.string nm, .string mo, .string it, .int .i64 (ks[0]?.getD (-1))], .bool true]) w :=
  on_callNode _ w
set_option maxRecDepth 100000 in
theorem callOff (kd nu : Int) (nm mo it : ByteArray) (kv : Value) (ks : List Int) (w : World) (h : kd ≠ 14) : (Instr.typeAssert (typedV kd nu nm mo it kv ks) 114 118 true).run Tryz.prog w = .ok (.tuple #[.agg #[.string ⟨#[]⟩, .string ⟨#[]⟩, .string ⟨#[]⟩, .int .i64 0], .bool false]) w := by
  unfold typedV
  by_cases h1 : kd = 1
  · rw [if_pos h1]
    exact off_callNode _ _ w (by decide)
  rw [if_neg h1]
  by_cases h2 : kd = 2
  · rw [if_pos h2]
    exact off_callNode _ _ w (by decide)
  rw [if_neg h2]
  by_cases h3 : kd = 3
  · rw [if_pos h3]
    exact off_callNode _ _ w (by decide)
  rw [if_neg h3]
  by_cases h4 : kd = 4
  · rw [if_pos h4]
    exact off_callNode _ _ w (by decide)
  rw [if_neg h4]
  by_cases h5 : kd = 5
  · rw [if_pos h5]
    exact off_callNode _ _ w (by decide)
  rw [if_neg h5]
  by_cases h11 : kd = 11
  · rw [if_pos h11]
    exact off_callNode _ _ w (by decide)
  rw [if_neg h11]
  by_cases h12 : kd = 12
  · rw [if_pos h12]
    exact off_callNode _ _ w (by decide)
  rw [if_neg h12]
  by_cases h13 : kd = 13
  · rw [if_pos h13]
    exact off_callNode _ _ w (by decide)
  rw [if_neg h13]
  rw [if_neg h]
  by_cases h15 : kd = 15
  · rw [if_pos h15]
    exact off_callNode _ _ w (by decide)
  rw [if_neg h15]
  by_cases h16 : kd = 16
  · rw [if_pos h16]
    exact off_callNode _ _ w (by decide)
  rw [if_neg h16]
  by_cases h17 : kd = 17
  · rw [if_pos h17]
    exact off_callNode _ _ w (by decide)
  rw [if_neg h17]
  by_cases h18 : kd = 18
  · rw [if_pos h18]
    exact off_callNode _ _ w (by decide)
  rw [if_neg h18]
  by_cases h19 : kd = 19
  · rw [if_pos h19]
    exact off_callNode _ _ w (by decide)
  rw [if_neg h19]
  by_cases h20 : kd = 20
  · rw [if_pos h20]
    exact off_callNode _ _ w (by decide)
  rw [if_neg h20]
  exact nil_callNode w
theorem owns_boxes {w w' : World} {base e s n : Nat} {T : TypeId} {v : Value} {xs : List Value} (h : w.ownsRow base e s v n xs) (hk : BoxesKept T w w') (hT : e ≠ T) : w'.ownsRow base e s v n xs := by
  refine ⟨h.1, ?_⟩
  rcases h.2 with h0 | ⟨g, cap, cur, rfl, hb1, hg, hr⟩
  · exact .inl h0
  · exact .inr ⟨g, cap, cur, rfl, hb1, hk g _ e hT hg, hr⟩
/-- While calls are looked for. -/
structure NcZ (w : World) (nv mv pv lv : Value) (ls : List Int) (z : World) : Prop where
  bp : Boxed w.heap.size z nv mv pv
  row : z.ownsRow 0 3 1 lv ls.length (ls.map I64)
  bel : Below w.heap.size w z
theorem NcZ.stays {w : World} {nv mv pv lv : Value} {ls : List Int} {z z' : World} (h : NcZ w nv mv pv lv ls z) (hb : Below z.heap.size z z') : NcZ w nv mv pv lv ls z' := ⟨h.bp.stays hb, ownsInts_stays h.row hb, h.bel.trans (hb.mono h.bel.size)⟩
def NcR (w : World) (nv mv pv lv : Value) (ns : List Nd) (ls : List Int) (v iv : Value) (wr : World) : Prop :=
  ∃ i : Nat, i ≤ ls.length ∧ iv = .int .i64 i ∧ Hid (NcZ w nv mv pv lv ls wr) ∧ Hid (wr.ownsRow (w.heap.size + 1) 9 1 v (callN ns (ls.take i)).length ((callN ns (ls.take i)).map Value.string))
theorem boxed_of {w z z' : World} {nv mv pv : Value} (h : Boxed w.heap.size z nv mv pv) (hb : Below (w.heap.size + 1) z z') : Boxed w.heap.size z' nv mv pv :=
  ⟨(hb.cell (p := ⟨w.heap.size, 0, none⟩) (Nat.lt_succ_self _)).trans h.c0, (hb.cell (p := ⟨w.heap.size, 1, none⟩) (Nat.lt_succ_self _)).trans h.c1, (hb.cell (p := ⟨w.heap.size, 2, none⟩) (Nat.lt_succ_self _)).trans h.c2, Nat.lt_of_lt_of_le h.lt hb.size⟩
theorem strs_of_own {w : World} {base n : Nat} {v : Value} {xs : List ByteArray} (h : w.ownsRow base 9 1 v n (xs.map Value.string)) (hn : n = xs.length) : StrsAt w v xs := by
  subst hn
  obtain ⟨ao, c, rfl, _, hc⟩ := CellsIn.own h
  refine ⟨ao, c, by rw [List.length_map], fun j hj => ?_⟩
  obtain ⟨a, rfl, _, h2, h3⟩ := hc j (.string xs[j]) (by rw [List.getElem?_map, List.getElem?_eq_getElem hj]; rfl)
  exact ⟨a, rfl, h2, h3⟩

set_option maxRecDepth 100000 in
set_option maxHeartbeats 4000000 in
theorem namesCalled_any (nv mv pv : Value) (ns : List Nd) (b : Nat) (w : World) (hN : NdsAt w nv ns) (hM : SlV mv) (hP : SlV pv) (hR : NdsRoom w nv ns.length) (hT : TreeOk ns) (hB : BodyOk ns (b : Int)) :
    Calls Tryz.prog 44 #[.agg #[nv, mv, pv], .int .i64 (b : Int)] w fun e w' => ∃ v, e = .returned v ∧ StrsAt w' v (callN ns (plTo (undI ns b) (b + 1))) ∧ Below w.heap.size w w' := by
  have hbn : b < ns.length := by have := hB.hi; omega
  have hdp : (deepsTo ns (b + 1)).getD b 0 ≠ 0 := by have := hB.deep; simpa using this
  have CU := fun z h1 h2 => hide (nodesUnder_any nv mv pv ns b z h1 hM hP h2 hbn hT.len hT.kids hT.all hT.low hdp)
  obtain ⟨W1, hW1⟩ : ∃ W1, (w.alloc (.cells #[nv, mv, pv] 33)).alloc (.cells #[] 9) = W1 := ⟨_, rfl⟩
  have hb1 : Below w.heap.size w (w.alloc (.cells #[nv, mv, pv] 33)) := (Below.refl _ _).alloc (Nat.le_refl _) _
  have hb12 : Below (w.alloc (.cells #[nv, mv, pv] 33)).heap.size (w.alloc (.cells #[nv, mv, pv] 33)) ((w.alloc (.cells #[nv, mv, pv] 33)).alloc (.cells #[] 9)) := (Below.refl _ _).alloc (Nat.le_refl _) _
  have hsz : (w.alloc (.cells #[nv, mv, pv] 33)).heap.size = w.heap.size + 1 := by simp
  have HX := hide ((Boxed.made w nv mv pv 33).stays hb12)
  have HO := hide (ownsRow_empty (w.alloc (.cells #[nv, mv, pv] 33)) (w.heap.size + 1) 9 (by rw [hsz]; exact Nat.le_refl _))
  rw [hsz] at HO
  have HB := hide (hb1.alloc hb1.size (.cells #[] 9))
  have HN := hide hN
  have HRM := hide hR
  have HW := hide hW1
  rw [hW1] at HX HO HB
  obtain ⟨ls, els⟩ : ∃ ls, plTo (undI ns b) (b + 1) = ls := ⟨_, rfl⟩
  have HLS : Hid (∀ y ∈ ls, 0 ≤ y ∧ y < (ns.length : Int)) := fun y hy => by
    rw [← els] at hy
    obtain ⟨q, hq, rfl⟩ := List.mem_map.1 hy
    have := List.mem_range.1 (List.mem_filter.1 hq).1
    omega
  have HLL : Hid (ls.length ≤ 1048576) := by
    have := plTo_len (undI ns b) (b + 1)
    rw [els] at this
    have := hT.len
    show _ ≤ _
    omega
  rw [els] at CU ⊢
  have hnl := hT.len
  clear els hW1 hb1 hb12 hsz hdp hR hT hB
  obtain ⟨no, nc, rfl, _⟩ := hN
  obtain ⟨mo, mn, mc, rfl⟩ := hM
  obtain ⟨po, pn, pc, rfl⟩ := hP
  obtain ⟨c0, c1, c2, _⟩ := HX.out
  go_enter Tryz.func44, Tryz.ntmps44
  go_wp2_with fail
  rw [HW.out]
  refine (unhide (CU _ (HN.out.stays HB.out) (HRM.out.stays HB.out))).mono ?_
  rintro e w3 ⟨lv, rfl, hl3, hb3⟩
  have Z3 : Hid (NcZ w (.slice no ns.length nc) (.slice mo mn mc) (.slice po pn pc) lv ls w3) := ⟨HX.out.stays hb3, ownsRow_low hl3 (Nat.zero_le _), HB.out.trans (hb3.mono HB.out.size)⟩
  have O3 := hide (ownsInts_stays HO.out hb3)
  obtain ⟨lo, lc, rfl⟩ : ∃ lo lc, lv = .slice lo ls.length lc := by
    obtain ⟨ao, c, e, _⟩ := CellsIn.own hl3
    exact ⟨ao, c, by rw [e, List.length_map]⟩
  clear hb3 hl3 c0 c1 c2 CU HX HO HB
  obtain ⟨n, en⟩ : ∃ n, ls.length = n := ⟨_, rfl⟩
  have EN := hide en
  have hn1 : n ≤ 1048576 := by have := HLL.out; omega
  rw [en] at Z3 ⊢
  clear en
  go_wp2
  go_loopw [5, 15] (fun v iv wr => NcR w (.slice no ns.length nc) (.slice mo mn mc) (.slice po pn pc) (.slice lo n lc) ns ls v iv wr) (fun _ iv _ => n - (intOf iv).toNat)
  case atStart => exact ⟨0, by omega, rfl, Z3.out, O3.out⟩
  case round =>
    clear Z3 O3
    obtain ⟨i, hi, rfl, Z, O⟩ := hrel
    rw [EN.out] at hi
    by_cases hlt : i < n
    · have hlt' : (i : Int) < (n : Int) := by omega
      have hi0 : (0 : Int) ≤ (i : Int) := by omega
      have hix : i < ls.length := by rw [EN.out]; exact hlt
      have hk := HLS.out _ (List.getElem_mem hix)
      have HT : Hid (ls.take (i + 1) = ls.take i ++ [ls[i]]) := List.take_succ_eq_append_getElem hix
      obtain ⟨ao', c', e1, _, hc1⟩ := CellsIn.own Z.out.row
      injection e1 with e2 e3 e4
      subst e2
      obtain ⟨la, rfl, _, _, hx⟩ := hc1 i (.int .i64 ls[i]) (by rw [List.getElem?_map, List.getElem?_eq_getElem hix]; rfl)
      obtain ⟨k, ek⟩ : ∃ k : Nat, ls[i] = (k : Int) := ⟨ls[i].toNat, by omega⟩
      rw [ek] at hx HT hk
      clear ek e3 e4 hc1
      have hk0 : (0 : Int) ≤ (k : Int) := by omega
      have hk1 : (k : Int) < (ns.length : Int) := by omega
      have hkx : k < ns.length := by omega
      obtain ⟨no', nc', e5, hnc⟩ := HN.out.stays Z.out.bel
      injection e5 with e6 e7 e8
      subst e6
      obtain ⟨na, kv, rfl, _, hnd⟩ := hnc k hkx
      obtain ⟨r, hr⟩ : ∃ r, na.add (k * 6) = r := ⟨_, rfl⟩
      rw [hr] at hnd
      have HXN : Hid (ns.getD ((k : Int)).toNat default = ns[k]) := by show _ = _; rw [Int.toNat_natCast, List.getD_eq_getElem?_getD, List.getElem?_eq_getElem hkx]; rfl
      obtain ⟨x, ex⟩ : ∃ x, ns[k] = x := ⟨_, rfl⟩
      rw [ex] at hnd HXN
      have HK := hide hnd.kids
      obtain ⟨ko, kc, rfl, _⟩ := hnd.kids
      obtain ⟨d0, d1, d2, d3, d4, d5, _⟩ := hnd
      obtain ⟨c0, c1, c2, _⟩ := Z.out.bp
      have CT := hide (typed_any x.kind x.num x.name x.more x.into (.slice ko x.kids.length kc) x.kids wr HK.out)
      obtain ⟨L, eL⟩ : ∃ L, callN ns (ls.take i) = L := ⟨_, rfl⟩
      have HLN : Hid (L.length ≤ 1048576) := by
        have := callN_len ns (ls.take i)
        rw [eL, List.length_take] at this
        have := HLL.out
        show _ ≤ _
        omega
      obtain ⟨nl, enl⟩ : ∃ nl, ns.length = nl := ⟨_, rfl⟩
      have ENL := hide enl
      have HNZ := hide HN.out
      rw [enl] at Z hk1 c0
      clear hnc e7 e8 ex hk enl
      by_cases h14 : x.kind = 14
      · have HNX : Hid (callN ns (ls.take (i + 1)) = L ++ [x.name]) := by
          rw [HT.out]
          show _ = _
          rw [callN_yes (by rw [HXN.out]; exact h14), HXN.out, eL]
        rw [eL] at O
        have y0 := fun z => callOn x.num x.name x.more x.into (.slice ko x.kids.length kc) x.kids z
        rw [h14] at CT d0
        obtain ⟨TV, eTV⟩ : ∃ TV, typedV 14 x.num x.name x.more x.into (.slice ko x.kids.length kc) x.kids = TV := ⟨_, rfl⟩
        rw [eTV] at CT
        simp only [eTV] at y0
        obtain ⟨kq, ekq⟩ : ∃ kq, (x.kids[0]?.getD (-1)) = kq := ⟨_, rfl⟩
        simp only [ekq] at y0
        clear eTV eL h14 ekq
        go_wp2_with fail
        refine (unhide CT).mono ?_
        rintro e z7 ⟨rfl, hb7⟩
        have Z7 := hide (Z.out.stays hb7)
        have hb8 : Below z7.heap.size z7 (z7.alloc (.cells #[.string x.name, .string x.more, .string x.into, .int .i64 kq] 118)) := (Below.refl _ _).alloc (Nat.le_refl _) _
        have Z8 := hide (Z7.out.stays hb8)
        have HOA := hide ((ownsInts_stays O.out hb7).alloc (.cells #[.string x.name, .string x.more, .string x.into, .int .i64 kq] 118))
        have hwz : w.heap.size + 1 ≤ (z7.alloc (.cells #[.string x.name, .string x.more, .string x.into, .int .i64 kq] 118)).heap.size := by
          have := Z7.out.bel.size
          simp
          omega
        have HWZ := hide hwz
        clear hb7 hb8 c0 c1 c2 d0 d1 d2 d3 d4 d5 hx Z O
        go_wp2_with (at_builtin; refine wpList_app_new (g := z7.heap.size + 1) (by simp) rfl (.tmp 30) (.tmp 33) 47 rfl (w.heap.size + 1) 9 (.string ⟨#[]⟩) 16 Tryz.underlying47 Tryz.infoStr rfl _ L.length _ _ rfl HOA.out 1 rfl rfl (by intro u hu; simp at hu; subst hu; rfl) (by have := HLN.out; unfold maxLen; omega) (by have := HLN.out; omega) HWZ.out ?_)
        intro v1 w1 ho1 hb1 hk1
        have Z9 : Hid (NcZ w (.slice (some na) nl nc) (.slice mo mn mc) (.slice po pn pc) (.slice (some la) n lc) ls w1) := ⟨boxed_of Z8.out.bp hb1, owns_boxes Z8.out.row hk1 (by decide), Z8.out.bel.trans (hb1.mono (Nat.le_succ _))⟩
        have O9 := hide ho1
        clear ho1 hb1 hk1 HOA Z8 Z7
        go_wp2
        go_roundw
        case rel =>
          refine ⟨i + 1, by rw [EN.out]; omega, by go_num, by rw [ENL.out]; exact Z9.out, ?_⟩
          rw [HNX.out, List.length_append, List.map_append]
          exact O9.out
        case measure => simp [intOf]; omega
      · have HNX : Hid (callN ns (ls.take (i + 1)) = L) := by
          rw [HT.out]
          show _ = _
          rw [callN_no (by rw [HXN.out]; exact h14), eL]
        rw [eL] at O
        have y0 := fun z => callOff x.kind x.num x.name x.more x.into (.slice ko x.kids.length kc) x.kids z h14
        obtain ⟨TV, eTV⟩ : ∃ TV, typedV x.kind x.num x.name x.more x.into (.slice ko x.kids.length kc) x.kids = TV := ⟨_, rfl⟩
        rw [eTV] at CT
        simp only [eTV] at y0
        clear eTV eL h14
        go_wp2_with fail
        refine (unhide CT).mono ?_
        rintro e z7 ⟨rfl, hb7⟩
        have Z7 := hide (Z.out.stays hb7)
        have hb8 : Below z7.heap.size z7 (z7.alloc (.cells #[.string ⟨#[]⟩, .string ⟨#[]⟩, .string ⟨#[]⟩, .int .i64 0] 118)) := (Below.refl _ _).alloc (Nat.le_refl _) _
        have Z8 := hide (Z7.out.stays hb8)
        have HOA := hide ((ownsInts_stays O.out hb7).alloc (.cells #[.string ⟨#[]⟩, .string ⟨#[]⟩, .string ⟨#[]⟩, .int .i64 0] 118))
        clear hb7 hb8 c0 c1 c2 d0 d1 d2 d3 d4 d5 hx Z O
        go_wp2
        go_roundw
        case rel => exact ⟨i + 1, by rw [EN.out]; omega, by go_num, by rw [ENL.out]; exact Z8.out, by rw [HNX.out]; exact HOA.out⟩
        case measure => simp [intOf]; omega
    · have hlt' : ¬ (i : Int) < (n : Int) := by omega
      have O' := O.out
      rw [List.take_of_length_le (by rw [EN.out]; omega)] at O'
      have HF := hide O'
      clear O'
      go_wp2
      go_ret
      exact ⟨_, rfl, strs_of_own HF.out rfl, Z.out.bel⟩
end Go.Proofs.YtpdpmnkonkpheaaGreat

namespace Go.Proofs.YtpdpmnkonkpheaaGreat
open Go.RowKit Go.Maps

theorem But.grown {g : Nat} {w w' : World} (hg : w.grownBy w' (some g)) (hl : g ≤ w.heap.size) : But g w w' :=
  ⟨rgrown_below (Below.refl g w) hg hl (Nat.le_refl _), fun i hi hn => hg.block i hi (fun e => hn (Option.some.inj e))⟩
theorem RtAt.cell_ne {w : World} {b n : Nat} {us cs : List ByteArray} (h : RtAt w b n us cs) {p : Addr} {u : Value} (hp : w.cell? p = some u) : p.block ≠ b := fun e => by
  obtain ⟨D, ⟨es, cl, q1, _⟩, _⟩ := h
  subst e
  simp [World.cell?, q1] at hp
theorem StrsAt.but {w w' : World} {b n : Nat} {us cs : List ByteArray} {v : Value} {xs : List ByteArray} (h : StrsAt w v xs) (hr : RtAt w b n us cs) (hb : But b w w') : StrsAt w' v xs := by
  obtain ⟨ao, c, rfl, hc⟩ := h
  refine ⟨ao, c, rfl, fun j hj => ?_⟩
  obtain ⟨a, rfl, h1, h2⟩ := hc j hj
  exact ⟨a, rfl, Nat.lt_of_lt_of_le h1 hb.bel.size, (hb.cell (by rw [block_add]; exact h1) (hr.cell_ne h2)).trans h2⟩
/-- While what is used is entered, in a block from b on. -/
def RbU (W : World) (b : Nat) (xs : List ByteArray) (iv : Value) (wr : World) : Prop := ∃ i : Nat, i ≤ xs.length ∧ iv = .int .i64 i ∧ Hid (RtAt wr b i (xs.take i) []) ∧ Hid (Below b W wr)
def RbC (W : World) (b n : Nat) (us : List ByteArray) (v : Value) (xs : List ByteArray) (iv : Value) (wr : World) : Prop := ∃ i : Nat, i ≤ xs.length ∧ iv = .int .i64 i ∧ Hid (RtAt wr b (n + i) us (xs.take i)) ∧ Hid (Below b W wr) ∧ Hid (StrsAt wr v xs)

set_option maxRecDepth 100000 in
set_option maxHeartbeats 4000000 in
theorem rightsBoth_any (nv mv pv uv vv : Value) (ns : List Nd) (nm : ByteArray) (bd : Nat) (xs : List ByteArray) (w : World) (hN : NdsAt w nv ns) (hM : SlV mv) (hP : SlV pv) (hR : NdsRoom w nv ns.length) (hT : TreeOk ns) (hB : BodyOk ns (bd : Int)) (hu : StrsAt w uv xs) (hv : SlV vv) (hl : xs.length ≤ 1048576) (hs : ∀ x ∈ xs, x.size ≤ 1048576) :
    Calls Tryz.prog 19 #[.agg #[nv, mv, pv], .agg #[.string nm, uv, vv, .int .i64 (bd : Int)], .int .u8 3] w fun e w' => ∃ b n, e = .returned (.map (some b)) ∧ RtAt w' b n xs (callN ns (plTo (undI ns bd) (bd + 1))) ∧ w.heap.size ≤ b ∧ Below w.heap.size w w' := by
  have hmm := @run_makeMap Tryz.prog
  have CH1 : ∀ w, Hid (Calls Tryz.prog 43 #[.int .u8 3, .int .u8 1] w fun e w' => e = .returned (.bool true) ∧ w' = w) := fun w => hide (rightHas_any 3 1 w (.inr (.inr (.inr rfl))) (.inl rfl))
  have CH2 : ∀ w, Hid (Calls Tryz.prog 43 #[.int .u8 3, .int .u8 2] w fun e w' => e = .returned (.bool true) ∧ w' = w) := fun w => hide (rightHas_any 3 2 w (.inr (.inr (.inr rfl))) (.inr rfl))
  have CN := fun z (h : Below w.heap.size w z) => hide (namesCalled_any nv mv pv ns bd z (hN.stays h) hM hP (hR.stays h) hT hB)
  have HCS : Hid (∀ x ∈ callN ns (plTo (undI ns bd) (bd + 1)), x.size ≤ 1048576) := fun x hx => by
    obtain ⟨k, hk, rfl⟩ := List.mem_map.1 hx
    obtain ⟨q, hq, rfl⟩ := List.mem_map.1 (List.mem_filter.1 hk).1
    have hq2 := List.mem_range.1 (List.mem_filter.1 hq).1
    have hbn := hB.hi
    have hqn : q < ns.length := by omega
    rw [Int.toNat_natCast, List.getD_eq_getElem?_getD, List.getElem?_eq_getElem hqn]
    exact (hT.ins _ (List.getElem_mem hqn)).2.1
  have HCL : Hid ((callN ns (plTo (undI ns bd) (bd + 1))).length ≤ 1048576) := by
    have h1 := callN_len ns (plTo (undI ns bd) (bd + 1))
    have h2 := plTo_len (undI ns bd) (bd + 1)
    have := hT.len
    have := hB.hi
    show _ ≤ _
    omega
  obtain ⟨cs, ecs⟩ : ∃ cs, callN ns (plTo (undI ns bd) (bd + 1)) = cs := ⟨_, rfl⟩
  rw [ecs] at CN HCS HCL ⊢
  clear ecs hR hT hB
  have H := hide hu
  obtain ⟨no, nc, rfl, _⟩ := hN
  obtain ⟨mo, mn, mc, rfl⟩ := hM
  obtain ⟨po, pn, pc, rfl⟩ := hP
  obtain ⟨vo, vn, vc, rfl⟩ := hv
  obtain ⟨ao, c, rfl, _⟩ := hu
  obtain ⟨n, en⟩ : ∃ n, xs.length = n := ⟨_, rfl⟩
  have EN := hide en
  have HS := hide hs
  obtain ⟨nl, enl⟩ : ∃ nl, ns.length = nl := ⟨_, rfl⟩
  rw [enl] at CN ⊢
  rw [en] at H hl ⊢
  clear en hs enl
  go_enter Tryz.func19, Tryz.ntmps19
  go_wp2_with fail
  obtain ⟨W, hW⟩ : ∃ W, ((w.alloc (.cells #[.slice no nl nc, .slice mo mn mc, .slice po pn pc] 33)).alloc (.cells #[.string nm, .slice ao n c, .slice vo vn vc, .int .i64 bd] 49)).alloc (.map #[] 0) = W := ⟨_, rfl⟩
  have hb1 : Below w.heap.size w (w.alloc (.cells #[.slice no nl nc, .slice mo mn mc, .slice po pn pc] 33)) := (Below.refl _ _).alloc (Nat.le_refl _) _
  have hb2 := hb1.alloc hb1.size (.cells #[.string nm, .slice ao n c, .slice vo vn vc, .int .i64 bd] 49)
  have HB0 : Hid (Below w.heap.size w W) := by rw [← hW]; exact hb2.alloc hb2.size _
  have H0 : Hid (RtAt W (w.heap.size + 1 + 1) 0 [] []) := by
    rw [← hW]
    have h := RtAt.made ((w.alloc (.cells #[.slice no nl nc, .slice mo mn mc, .slice po pn pc] 33)).alloc (.cells #[.string nm, .slice ao n c, .slice vo vn vc, .int .i64 bd] 49))
    simp at h
    exact hide h
  have BQ : Hid (Box W (w.heap.size + 1) #[.string nm, .slice ao n c, .slice vo vn vc, .int .i64 bd] 49) := by
    rw [← hW]
    have h := (Box.made (w.alloc (.cells #[.slice no nl nc, .slice mo mn mc, .slice po pn pc] 33)) #[.string nm, .slice ao n c, .slice vo vn vc, .int .i64 bd] 49).stays ((Below.refl _ _).alloc (Nat.le_refl _) (.map #[] 0))
    simp only [World.alloc, Array.size_push] at h ⊢
    exact hide h
  have BP : Hid (Box W w.heap.size #[.slice no nl nc, .slice mo mn mc, .slice po pn pc] 33) := by
    rw [← hW]
    exact hide (((Box.made w #[.slice no nl nc, .slice mo mn mc, .slice po pn pc] 33).stays ((Below.refl _ _).alloc (Nat.le_refl _) _)).stays ((Below.refl _ _).alloc (Nat.le_refl _) _))
  have hWz : W.heap.size = w.heap.size + 1 + 1 + 1 := by rw [← hW]; simp
  have HWZ := hide hWz
  rw [hW]
  clear hW hb1 hb2 hWz
  have d1 := Lib.cell_of_heap BQ.out 1
  simp at d1
  refine (unhide (CH1 _)).mono ?_
  rintro e z ⟨rfl, rfl⟩
  go_wp2
  go_loopw [18] (fun iv wr => RbU z (w.heap.size + 1 + 1) xs iv wr) (fun iv _ => n - (intOf iv).toNat)
  case atStart => exact ⟨0, by omega, rfl, H0.out, Below.refl _ _⟩
  case round =>
    clear H0 d1
    obtain ⟨i, hi, rfl, HM, HB⟩ := hrel
    rw [EN.out] at hi
    by_cases hlt : i < n
    · have hlt' : (i : Int) < (n : Int) := by omega
      have hi0 : (0 : Int) ≤ (i : Int) := by omega
      have hix : i < xs.length := by rw [EN.out]; exact hlt
      have HBW : Hid (Below w.heap.size w wr) := HB0.out.trans (HB.out.mono (by omega))
      obtain ⟨ao', c', e1, hc1⟩ := H.out.stays HBW.out
      injection e1 with e2 e3 e4
      subst e2
      obtain ⟨a, rfl, _, hx⟩ := hc1 i hix
      have HT : Hid (xs.take (i + 1) = xs.take i ++ [xs[i]]) := List.take_succ_eq_append_getElem hix
      have hsx := HS.out _ (List.getElem_mem hix)
      obtain ⟨x, ex⟩ : ∃ x, xs[i] = x := ⟨_, rfl⟩
      rw [ex] at hx HT hsx
      clear e3 e4 ex hc1
      have hL := HM.out.look hsx
      obtain ⟨w5, hU, hrt5, hg5⟩ := HM.out.use hsx (by omega) (c := 1) (by unfold bitsR; rw [memB_snoc, decide_eq_true rfl]; simp [memB])
      have HM5 := hide hrt5
      have HB5 := hide (rgrown_below HB.out hg5 (Nat.le_of_lt HM.out.lt) (Nat.le_refl _))
      clear hrt5 hg5
      have hk : bitsR (xs.take i) [] x = 0 ∨ bitsR (xs.take i) [] x = 1 := by unfold bitsR; cases memB (xs.take i) x <;> simp [memB]
      obtain ⟨k, ek⟩ : ∃ k, bitsR (xs.take i) [] x = k := ⟨_, rfl⟩
      rw [ek] at hk hL
      clear ek
      have hor0 : bits BinOp.or IntKind.u8 0 1 = 1 := by kernel_rfl
      have hor1 : bits BinOp.or IntKind.u8 1 1 = 1 := by kernel_rfl
      rcases hk with rfl | rfl
      all_goals go_wp2
      all_goals go_roundw
      case rel => exact ⟨i + 1, by rw [EN.out]; omega, by go_num, by rw [HT.out]; exact HM5.out, HB5.out⟩
      case measure => simp [intOf]; omega
      case rel => exact ⟨i + 1, by rw [EN.out]; omega, by go_num, by rw [HT.out]; exact HM5.out, HB5.out⟩
      case measure => simp [intOf]; omega
    · have hlt' : ¬ (i : Int) < (n : Int) := by omega
      have HF : Hid (RtAt wr (w.heap.size + 1 + 1) n xs []) := by
        have h := HM.out
        rw [List.take_of_length_le (by rw [EN.out]; omega)] at h
        exact h.mono (by omega)
      have HBW : Hid (Below w.heap.size w wr) := HB0.out.trans (HB.out.mono (by omega))
      have q0 := (HB.out.cell (p := ⟨w.heap.size, 0, none⟩) (by show w.heap.size < _; omega)).trans (Lib.cell_of_heap BP.out 0)
      have q1 := (HB.out.cell (p := ⟨w.heap.size, 1, none⟩) (by show w.heap.size < _; omega)).trans (Lib.cell_of_heap BP.out 1)
      have q2 := (HB.out.cell (p := ⟨w.heap.size, 2, none⟩) (by show w.heap.size < _; omega)).trans (Lib.cell_of_heap BP.out 2)
      have q3 := (HB.out.cell (p := ⟨w.heap.size + 1, 3, none⟩) (by show w.heap.size + 1 < _; omega)).trans (Lib.cell_of_heap BQ.out 3)
      simp at q0 q1 q2 q3
      go_wp2_with (first
        | (go_at_call 43; refine (unhide (CH2 _)).mono ?_; rintro e z8 ⟨rfl, rfl⟩)
        | fail)
      refine (unhide (CN _ HBW.out)).mono ?_
      rintro e z9 ⟨v9, rfl, hs9, hb9⟩
      have HM9 := hide (HF.out.stays hb9 HF.out.lt)
      have HB9 := hide (HB.out.trans (hb9.mono (Nat.le_of_lt HF.out.lt)))
      have HS9 := hide hs9
      obtain ⟨co, cc, rfl, _⟩ := hs9
      obtain ⟨m, em⟩ : ∃ m, cs.length = m := ⟨_, rfl⟩
      have EM := hide em
      have hm1 : m ≤ 1048576 := by have := HCL.out; omega
      rw [em] at HS9 ⊢
      clear em hb9 q0 q1 q2 q3 HF HM HBW HB
      go_wp2
      go_loopw [34] (fun iv wr => RbC z (w.heap.size + 1 + 1) n xs (.slice co m cc) cs iv wr) (fun iv _ => m - (intOf iv).toNat)
      case atStart => exact ⟨0, by omega, rfl, HM9.out, HB9.out, HS9.out⟩
      case round =>
        clear HM9 HB9 HS9
        obtain ⟨j, hj, rfl, HM, HB, HSR⟩ := hrel
        rw [EM.out] at hj
        by_cases hlt : j < m
        · have hlt' : (j : Int) < (m : Int) := by omega
          have hj0 : (0 : Int) ≤ (j : Int) := by omega
          have hix : j < cs.length := by rw [EM.out]; exact hlt
          have HSR2 := HSR
          obtain ⟨ao', c', e1, hc1⟩ := HSR.out
          injection e1 with e2 e3 e4
          subst e2
          obtain ⟨a, rfl, _, hx⟩ := hc1 j hix
          have HT : Hid (cs.take (j + 1) = cs.take j ++ [cs[j]]) := List.take_succ_eq_append_getElem hix
          have hsx := HCS.out _ (List.getElem_mem hix)
          obtain ⟨x, ex⟩ : ∃ x, cs[j] = x := ⟨_, rfl⟩
          rw [ex] at hx HT hsx
          clear e3 e4 ex hc1
          have hL := HM.out.look hsx
          have hbc : bitsR xs (cs.take j ++ [x]) x = 2 ∨ bitsR xs (cs.take j ++ [x]) x = 3 := by unfold bitsR; rw [memB_snoc, decide_eq_true rfl]; cases memB xs x <;> simp
          obtain ⟨k2, ek2⟩ : ∃ k2, bitsR xs (cs.take j ++ [x]) x = k2 := ⟨_, rfl⟩
          obtain ⟨w5, hU, hrt5, hg5⟩ := HM.out.call hsx (by omega) (c := k2) ek2.symm
          have HM5 := hide hrt5
          have HB5 := hide (rgrown_below HB.out hg5 (Nat.le_of_lt HM.out.lt) (Nat.le_refl _))
          have HS5 := hide (HSR2.out.but HM.out (But.grown hg5 (Nat.le_of_lt HM.out.lt)))
          have hk : ∃ k, bitsR xs (cs.take j) x = k ∧ ((k = 0 ∧ k2 = 2) ∨ (k = 1 ∧ k2 = 3) ∨ (k = 2 ∧ k2 = 2) ∨ (k = 3 ∧ k2 = 3)) := by
            refine ⟨_, rfl, ?_⟩
            rw [← ek2]
            unfold bitsR
            rw [memB_snoc, decide_eq_true rfl]
            cases memB xs x <;> cases memB (cs.take j) x <;> simp
          obtain ⟨k, ek, hk⟩ := hk
          rw [ek] at hL
          clear hrt5 hg5 ek ek2 hbc
          have hor0 : bits BinOp.or IntKind.u8 0 2 = 2 := by kernel_rfl
          have hor1 : bits BinOp.or IntKind.u8 1 2 = 3 := by kernel_rfl
          have hor2 : bits BinOp.or IntKind.u8 2 2 = 2 := by kernel_rfl
          have hor3 : bits BinOp.or IntKind.u8 3 2 = 3 := by kernel_rfl
          rcases hk with ⟨rfl, rfl⟩ | ⟨rfl, rfl⟩ | ⟨rfl, rfl⟩ | ⟨rfl, rfl⟩
          all_goals go_wp2
          all_goals go_roundw
          iterate 4
            case rel => exact ⟨j + 1, by rw [EM.out]; omega, by go_num, by rw [HT.out, ← Nat.add_assoc]; exact HM5.out, HB5.out, HS5.out⟩
            case measure => simp [intOf]; omega
        · have hlt' : ¬ (j : Int) < (m : Int) := by omega
          have HF : Hid (RtAt wr (w.heap.size + 1 + 1) (n + j) xs cs) := by
            have h := HM.out
            rw [List.take_of_length_le (by rw [EM.out]; omega)] at h
            exact h
          go_wp2
          go_ret
          exact ⟨_, rfl, ⟨_, HF.out⟩, by omega, HB0.out.trans (HB.out.mono (by omega))⟩

/-- Is what is called used? -/
def keptR (c : Int) : Bool := decide (c ≠ 2)
set_option maxHeartbeats 1000000 in
theorem isKept_any (c : Int) (w : World) (hc : c = 0 ∨ c = 1 ∨ c = 2 ∨ c = 3) :
    Calls Tryz.prog 20 #[.int .u8 c] w fun e w' => e = .returned (.bool (keptR c)) ∧ w' = w := by
  rcases hc with rfl | rfl | rfl | rfl
  · have C1 : ∀ w, Hid (Calls Tryz.prog 43 #[.int .u8 0, .int .u8 1] w fun e w' => e = .returned (.bool false) ∧ w' = w) := fun w => hide (rightHas_any 0 1 w (.inl rfl) (.inl rfl))
    have C2 : ∀ w, Hid (Calls Tryz.prog 43 #[.int .u8 0, .int .u8 2] w fun e w' => e = .returned (.bool false) ∧ w' = w) := fun w => hide (rightHas_any 0 2 w (.inl rfl) (.inr rfl))
    go_enter Tryz.func20, Tryz.ntmps20
    go_wp2_with fail
    refine (unhide (C1 _)).mono ?_
    rintro e z ⟨rfl, rfl⟩
    go_wp2_with fail
    refine (unhide (C2 _)).mono ?_
    rintro e z ⟨rfl, rfl⟩
    go_wp2
    go_ret
    exact ⟨rfl, rfl⟩
  · have C1 : ∀ w, Hid (Calls Tryz.prog 43 #[.int .u8 1, .int .u8 1] w fun e w' => e = .returned (.bool true) ∧ w' = w) := fun w => hide (rightHas_any 1 1 w (.inr (.inl rfl)) (.inl rfl))
    go_enter Tryz.func20, Tryz.ntmps20
    go_wp2_with (go_at_call 43; refine (unhide (C1 _)).mono ?_; rintro e z ⟨rfl, rfl⟩)
    go_ret
    exact ⟨rfl, rfl⟩
  · have C1 : ∀ w, Hid (Calls Tryz.prog 43 #[.int .u8 2, .int .u8 1] w fun e w' => e = .returned (.bool false) ∧ w' = w) := fun w => hide (rightHas_any 2 1 w (.inr (.inr (.inl rfl))) (.inl rfl))
    have C2 : ∀ w, Hid (Calls Tryz.prog 43 #[.int .u8 2, .int .u8 2] w fun e w' => e = .returned (.bool true) ∧ w' = w) := fun w => hide (rightHas_any 2 2 w (.inr (.inr (.inl rfl))) (.inr rfl))
    go_enter Tryz.func20, Tryz.ntmps20
    go_wp2_with fail
    refine (unhide (C1 _)).mono ?_
    rintro e z ⟨rfl, rfl⟩
    go_wp2_with fail
    refine (unhide (C2 _)).mono ?_
    rintro e z ⟨rfl, rfl⟩
    go_wp2
    go_ret
    exact ⟨rfl, rfl⟩
  · have C1 : ∀ w, Hid (Calls Tryz.prog 43 #[.int .u8 3, .int .u8 1] w fun e w' => e = .returned (.bool true) ∧ w' = w) := fun w => hide (rightHas_any 3 1 w (.inr (.inr (.inr rfl))) (.inl rfl))
    go_enter Tryz.func20, Tryz.ntmps20
    go_wp2_with (go_at_call 43; refine (unhide (C1 _)).mono ?_; rintro e z ⟨rfl, rfl⟩)
    go_ret
    exact ⟨rfl, rfl⟩
end Go.Proofs.YtpdpmnkonkpheaaGreat

namespace Go.Proofs.YtpdpmnkonkpheaaGreat
open Go.RowKit

theorem ints_own {base : Nat} {w : World} {v : Value} {xs : List Int} (h : w.ownsRow base 3 1 v xs.length (xs.map I64)) : IntsAt w v xs := by
  rcases h.2 with ⟨rfl, e⟩ | ⟨g, cap, cur, rfl, hb, hg, hr⟩
  · obtain rfl := List.length_eq_zero_iff.1 e
    exact ⟨none, 0, rfl, fun j hj => absurd hj (Nat.not_lt_zero j)⟩
  · refine ⟨some ⟨g, 0, none⟩, cap, rfl, fun j hj => ⟨⟨g, 0, none⟩, rfl, (h.lt g rfl).2, ?_⟩⟩
    rw [add_zero_at, h.cellAt j (by omega), List.getElem?_map, List.getElem?_eq_getElem hj]
    rfl
/-- How deep a node is, by the specification. -/
def deepS (ns : List Nd) (k : Int) : Int := if 0 ≤ k ∧ k < (ns.length : Int) then (deepsTo ns ns.length).getD k.toNat 0 else 0

set_option maxRecDepth 100000 in
set_option maxHeartbeats 4000000 in
theorem specDeepOf_any (nv mv pv : Value) (ns : List Nd) (k : Int) (w : World) (hN : NdsAt w nv ns) (hM : SlV mv) (hP : SlV pv) (hl : ns.length ≤ 1048576) (hin : NsIn ns) :
    Calls Tryz.prog 60 #[.agg #[nv, mv, pv], .int .i64 k] w fun e w' => e = .returned (.int .i64 (deepS ns k)) ∧ Below w.heap.size w w' := by
  have hb1 : Below w.heap.size w (w.alloc (.cells #[nv, mv, pv] 33)) := (Below.refl _ _).alloc (Nat.le_refl _) _
  have HN := hide (hN.stays hb1)
  have HX := hide (Boxed.made w nv mv pv 33)
  have HB := hide hb1
  have CI := fun z => hide (l01In_gen k 0 ((ns.length : Int) - 1) z)
  have CD := fun z h => hide (l05Deeps_any nv mv pv ns z h hl hin)
  obtain ⟨no, nc, rfl, _⟩ := hN
  obtain ⟨mo, mn, mc, rfl⟩ := hM
  obtain ⟨po, pn, pc, rfl⟩ := hP
  clear hb1
  obtain ⟨c0, c1, c2, _⟩ := HX.out
  obtain ⟨R, eR⟩ : ∃ R, deepS ns k = R := ⟨_, rfl⟩
  have ER := hide eR
  rw [eR]
  clear eR
  cases h1 : inZ 0 ((ns.length : Int) - 1) k with
  | false =>
    have eR2 : R = 0 := by
      rw [← ER.out, deepS, if_neg]
      rintro ⟨a, b⟩
      have := inZ_yes.2 (show 0 ≤ k ∧ k ≤ (ns.length : Int) - 1 by omega)
      rw [h1] at this
      cases this
    subst eR2
    rw [h1] at CI
    clear h1 CD
    go_enter Tryz.func60, Tryz.ntmps60
    go_wp2_with (go_at_call 31; refine (unhide (CI _)).mono ?_; rintro e w3 ⟨rfl, rfl⟩)
    go_ret
    exact ⟨rfl, HB.out⟩
  | true =>
    have hi2 := inZ_yes.1 h1
    obtain ⟨j, ej⟩ : ∃ j : Nat, k = (j : Int) := ⟨k.toNat, by omega⟩
    subst ej
    rw [h1] at CI
    clear h1
    have hj0 : (0 : Int) ≤ (j : Int) := by omega
    have hj1 : (j : Int) < (ns.length : Int) := by omega
    have HRR : Hid (R = (deepsTo ns ns.length).getD j 0) := by
      show _ = _
      rw [← ER.out, deepS, if_pos ⟨by omega, by omega⟩, Int.toNat_natCast]
    clear hi2
    go_enter Tryz.func60, Tryz.ntmps60
    go_wp2_with fail
    refine (unhide (CI _)).mono ?_
    rintro e w3 ⟨rfl, rfl⟩
    go_wp2_with fail
    refine (unhide (CD _ HN.out)).mono ?_
    rintro e w4 ⟨v, rfl, ho, hb⟩
    have HBF := hide (HB.out.trans (hb.mono HB.out.size))
    obtain ⟨lo, lc, rfl, hlc⟩ := ints_own (by rw [deepsTo_len]; exact ho)
    obtain ⟨a, rfl, _, hx⟩ := hlc j (by rw [deepsTo_len]; omega)
    have hx2 : w4.cell? (a.add j) = some (.int .i64 R) := by
      rw [hx, HRR.out, List.getD_eq_getElem?_getD, List.getElem?_eq_getElem (by rw [deepsTo_len]; omega)]
      rfl
    have hln : (deepsTo ns ns.length).length = ns.length := deepsTo_len _ _
    rw [hln]
    clear hlc hx ho hb hln HRR ER
    go_wp2
    go_ret
    exact ⟨rfl, HBF.out⟩

def SnR (w : World) (gu : Nat) (cur : Array Value) (u : List Bool) (n : Nat) (v iv : Value) (wr : World) : Prop :=
  ∃ i : Nat, i ≤ n ∧ iv = .int .i64 i ∧ Hid (wr.ownsRow w.heap.size 3 1 v (plTo u i).length ((plTo u i).map I64)) ∧ Hid (Below w.heap.size w wr) ∧ Hid (Box wr gu cur 4)

set_option maxRecDepth 100000 in
set_option maxHeartbeats 4000000 in
theorem specNodesUnder_any (nv mv pv : Value) (ns : List Nd) (k : Nat) (w : World) (hN : NdsAt w nv ns) (hM : SlV mv) (hP : SlV pv) (hk : k < ns.length) (hl : ns.length ≤ 1048576) (hin : NsIn ns) (hkx : ∀ x ∈ ns, x.kids.length ≤ 1048576) (hK : ∀ x ∈ ns, ∀ y ∈ x.kids, 0 ≤ y ∧ y < (ns.length : Int)) (hD : deepS ns (k : Int) ≠ 0) :
    Calls Tryz.prog 32 #[.agg #[nv, mv, pv], .int .i64 (k : Int)] w fun e w' => ∃ v, e = .returned v ∧ w'.ownsRow w.heap.size 3 1 v (plTo (undL ns ns.length k) ns.length).length ((plTo (undL ns ns.length k) ns.length).map I64) ∧ Below w.heap.size w w' := by
  have hb1 : Below w.heap.size w (w.alloc (.cells #[nv, mv, pv] 33)) := (Below.refl _ _).alloc (Nat.le_refl _) _
  have hb2 : Below w.heap.size w ((w.alloc (.cells #[nv, mv, pv] 33)).alloc (.cells #[] 3)) := hb1.alloc hb1.size _
  have hb12 : Below (w.alloc (.cells #[nv, mv, pv] 33)).heap.size (w.alloc (.cells #[nv, mv, pv] 33)) ((w.alloc (.cells #[nv, mv, pv] 33)).alloc (.cells #[] 3)) := (Below.refl _ _).alloc (Nat.le_refl _) _
  have HN := hide (hN.stays hb2)
  have HX := hide ((Boxed.made w nv mv pv 33).stays hb12)
  have hsz : (w.alloc (.cells #[nv, mv, pv] 33)).heap.size = w.heap.size + 1 := by simp
  have HO := hide (ownsRow_empty (w.alloc (.cells #[nv, mv, pv] 33)) w.heap.size 3 hb1.size)
  rw [hsz] at HO
  have HB := hide hb2
  have CD := fun z h => hide (specDeepOf_any nv mv pv ns (k : Int) z h hM hP hl hin)
  have CU := fun z h => hide (l08Under_any nv mv pv ns k z h hM hP hl hk hkx hK)
  obtain ⟨no, nc, rfl, _⟩ := hN
  obtain ⟨mo, mn, mc, rfl⟩ := hM
  obtain ⟨po, pn, pc, rfl⟩ := hP
  clear hb1 hb2 hb12 hsz
  obtain ⟨dd, edd⟩ : ∃ dd, deepS ns (k : Int) = dd := ⟨_, rfl⟩
  rw [edd] at CD hD
  have hdd : (dd == 0) = false := by simpa using hD
  clear edd
  obtain ⟨U, eU⟩ : ∃ U, undL ns ns.length k = U := ⟨_, rfl⟩
  have HUL : Hid (U.length = ns.length) := by rw [← eU]; exact hide (undL_len _ _ _)
  rw [eU] at CU ⊢
  clear eU
  obtain ⟨c0, c1, c2, _⟩ := HX.out
  go_enter Tryz.func32, Tryz.ntmps32
  go_wp2_with fail
  refine (unhide (CD _ HN.out)).mono ?_
  rintro e w1 ⟨rfl, hb1⟩
  have HX1 := hide (HX.out.stays hb1)
  have HN1 := hide (HN.out.stays hb1)
  have HB1 := hide (HB.out.trans (hb1.mono HB.out.size))
  have HO1 := hide (ownsInts_stays HO.out hb1)
  clear hb1 c0 c1 c2 HX HN HB HO CD
  obtain ⟨c0, c1, c2, _⟩ := HX1.out
  go_wp2_with fail
  refine (unhide (CU _ HN1.out)).mono ?_
  rintro e W3 ⟨uv, rfl, hu, hb2⟩
  have HB3 := hide (HB1.out.trans (hb2.mono HB1.out.size))
  have HO3 := hide (ownsInts_stays HO1.out hb2)
  obtain ⟨n, en⟩ : ∃ n, ns.length = n := ⟨_, rfl⟩
  have EN := hide en
  rw [en] at hu hl HUL ⊢
  have hn0 : 0 < n := by omega
  rcases hu.2 with ⟨_, e0⟩ | ⟨gu, cap, cur, rfl, hgb, hgu, hcap, _, hcs, hct⟩
  · omega
  have BU : Hid (Box W3 gu cur 4) := hgu
  have HCU : Hid (∀ j, j < n → cur[j]? = some (.bool (U.getD j false))) := fun j hj => by
    have h1 : (cur.toList.take (n * 1))[j]? = cur[j]? := by
      rw [List.getElem?_take_of_lt (by omega)]
      simp
    rw [← h1, hct, List.getElem?_map, List.getD_eq_getElem?_getD, List.getElem?_eq_getElem (by rw [HUL.out]; exact hj)]
    rfl
  clear hu hb2 hgu hct hcs hgb hcap c0 c1 c2 HX1 HN1 HB1 HO1 CU en
  go_wp2
  go_loopw [5, 7] (SnR w gu cur U n) (fun _ iv _ => n - (intOf iv).toNat)
  case atStart => exact ⟨0, by omega, rfl, HO3.out, HB3.out, BU.out⟩
  case round =>
    clear HO3 HB3 BU
    obtain ⟨i, hi, rfl, HO, HB, BU⟩ := hrel
    by_cases hlt : i < n
    · have hlt' : (i : Int) < (n : Int) := by omega
      have hi0 : (0 : Int) ≤ (i : Int) := by omega
      have hq : wr.cell? ⟨gu, i, none⟩ = some (.bool (U.getD i false)) := (Lib.cell_of_heap BU.out i).trans (HCU.out i hlt)
      have hpl := plTo_len U i
      cases hui : U.getD i false with
      | false =>
        rw [hui] at hq
        have HPN := hide (plTo_no hui)
        clear hui hpl
        go_wp2
        go_roundw
        case rel => exact ⟨i + 1, by omega, by go_num, by rw [HPN.out]; exact HO.out, HB.out, BU.out⟩
        case measure => simp [intOf]; omega
      | true =>
        rw [hui] at hq
        have HPN := hide (plTo_yes hui)
        have hwz : w.heap.size ≤ wr.heap.size := HB.out.size
        clear hui
        obtain ⟨L, eL⟩ : ∃ L, plTo U i = L := ⟨_, rfl⟩
        rw [eL] at HO HPN hpl
        clear eL
        go_wp2_with (at_builtin; refine wpList_app_new (g := wr.heap.size) rfl rfl (.tmp 27) (.tmp 29) 41 rfl w.heap.size 3 (.int .i64 0) 8 Tryz.underlying41 Tryz.infoInt rfl _ L.length _ _ rfl HO.out 1 rfl rfl (by intro u hu; simp at hu; subst hu; rfl) (by unfold maxLen; omega) (by omega) hwz ?_)
        intro v5 w5 hown5 hb5 hk5
        have HO5 : Hid (w5.ownsRow w.heap.size 3 1 v5 (plTo U (i + 1)).length ((plTo U (i + 1)).map I64)) := by
          rw [HPN.out, List.map_append, List.length_append]
          exact hown5
        have HB5 : Hid (Below w.heap.size w w5) := HB.out.trans hb5
        have BU5 := hide (hk5 _ _ _ (by decide) BU.out)
        clear hown5 hb5 hk5 hq
        have RR : SnR w gu cur U n v5 (.int .i64 ((i : Int) + 1)) w5 := ⟨i + 1, by omega, by go_num, HO5.out, HB5.out, BU5.out⟩
        go_wp2
        go_roundw
        case rel => exact RR
        case measure => simp [intOf]; omega
    · have hlt' : ¬ (i : Int) < (n : Int) := by omega
      have e9 : i = n := by omega
      subst e9
      go_wp2
      go_ret
      exact ⟨_, rfl, by rw [EN.out]; exact HO.out, HB.out⟩
end Go.Proofs.YtpdpmnkonkpheaaGreat
