/-
  Walks: the signs of a text, by the program.
-/
import Derived.Test.YtfnmpohcoabenaaDoorWrtW
namespace Go.Proofs.YtfnmpohcoabenaaDoor
open Go.RowKit

theorem ownsRow_none (w : World) (base : Nat) (e : TypeId) (size : Nat) (hb : base ≤ w.heap.size) : (w.alloc (.cells #[] e)).ownsRow base e size (.slice (some ⟨w.heap.size, 0, none⟩) 0 0) 0 [] := by
  have := World.ownsRow_made (base := base) (e := e) (size := size) w #[] 0 hb (by simp [maxLen]) (by simp)
  simpa using this

/-- What is handed back. -/
def SignEnd (s : ByteArray) (w : World) (e : Ending) (w' : World) : Prop :=
  ∃ v, e = .returned (.tuple #[v, .int .i64 ((signsR s).2 : Int)]) ∧ w'.ownsRow w.heap.size 36 4 v (signsR s).1.length (sgCells (signsR s).1) ∧ Below w.heap.size w w'
theorem SignEnd.non {s : ByteArray} {w wr : World} {n : Nat} {x : Int} (h : signsR s = ([], n)) (hx : x = (n : Int)) (hb : Below w.heap.size w wr) :
    SignEnd s w (.returned (.tuple #[.slice (some ⟨wr.heap.size, 0, none⟩) 0 0, .int .i64 x])) (wr.alloc (.cells #[] 36)) := by
  refine ⟨.slice (some ⟨wr.heap.size, 0, none⟩) 0 0, by rw [h, hx], ?_, hb.alloc hb.size _⟩
  rw [h]
  exact ownsRow_none wr _ _ _ hb.size

theorem tabs_stay {g4 g5 B : Nat} {w w' : World} (h : Lib.Utf8Tabs g4 g5 w) (hb : Below B w w') (hB : w.heap.size ≤ B) : Lib.Utf8Tabs g4 g5 w' := by
  have hc : ∀ {p : Addr} {v : Value}, w.cell? p = some v → w'.cell? p = some v := fun {p v} hp => (hb.cell (Nat.lt_of_lt_of_le (World.block_lt_of_cell? _ _ hp) hB)).trans hp
  exact ⟨fun c hcc => hc (h.1 c hcc), fun i hi => ⟨hc (h.2 i hi).1, hc (h.2 i hi).2⟩⟩

theorem clone_text (s : ByteArray) (w : World) (h : s.size ≤ 1048576) : Calls Tryd.prog 11 #[.string s] w fun e w' => e = .returned (.string s) ∧ Below w.heap.size w w' := by
  go_enter Tryd.func11, Tryd.ntmps11
  go_wp2_with (go_at_call 26; refine (Tryd.stringslite_Clone _ _ (by omega)).mono ?_; rintro e w1 ⟨rfl, hb⟩)
  go_ret
  exact ⟨rfl, by assumption⟩

/-- One value of four cells is appended to a row that is owned. -/
theorem wpList_app4 {P : Program} {w : World} {ops : Array Oper} {rest : List Oper} {o : Oper} {a : Act} {Q : Exit → Act → World → Prop} (hgd : o.guard = none) (s x : Operand) (t : TypeId)
    (ho : o.op = .call { callee := .builtin .append, args := #[s, x], argTypes := #[t, t] })
    (base : Nat) (e : TypeId) (z : Value) (bytes : Nat) (ht : P.underlying t = some (.slice e)) (hi : (P.info? e).map (fun i => (i.zero, i.size, i.bytes)) = some (some z, 4, bytes)) (hzs : z.cells.size = 4)
    (v : Value) (n : Nat) (xs : List Value) (y : Sg) (hs : a.eval s = v) (hown : w.ownsRow base e 4 v n xs)
    (hx : a.eval x = .slice (some ⟨w.heap.size, 0, none⟩) 1 1)
    (h63 : n + 1 ≤ maxLen) (hbytes : (n + 1) * bytes ≤ 140737488355328) (hbase : base ≤ w.heap.size)
    (h : ∀ v' w', w'.ownsRow base e 4 v' (n + 1) (xs ++ y.cells) → Below base w w' → (∀ k, v'.ownBlock = some k → base ≤ k) → wpList P ops Q rest (a.put o.dst v') w') :
    wpList P ops Q (o :: rest) a (w.alloc (.cells #[.int .i64 y.kind, .string y.text, .int .i64 y.num, .int .i64 y.place] e)) := by
  obtain ⟨i, hi, hz0, hz1, hz2⟩ := info_parts hi
  refine wpList_append_own _ hgd s x t ho base e i z 4 bytes ht hi hz0 hz1 hz2 hzs (by decide) v n xs hs (hown.alloc _) ⟨w.heap.size, 0, none⟩ 1 1 y.cells hx rfl ?_ ?_ h63 hbytes ?_ ?_
  · intro j q hj
    have hc := SgCell.new w y e
    match j, hj with
    | 0, hj => simp [Sg.cells] at hj; subst hj; simp [Addr.add]
    | 1, hj => simp [Sg.cells] at hj; subst hj; exact hc.2.1
    | 2, hj => simp [Sg.cells] at hj; subst hj; exact hc.2.2.1
    | 3, hj => simp [Sg.cells] at hj; subst hj; exact hc.2.2.2
    | j + 4, hj => simp [Sg.cells] at hj
  · intro q hq
    simp [Sg.cells] at hq
    rcases hq with rfl | rfl | rfl | rfl <;> rfl
  · simp; omega
  · intro v' w' hown' hgrow _
    refine h v' w' hown' ?_ (fun k hk => (hown'.lt k hk).1)
    exact ((Below.refl base w).alloc hbase _).grown hgrow (by simp; omega) (fun j hj => (hown.lt j hj).1)

theorem infoSi4 : (Tryd.prog.info? 36).map (fun i => (i.zero, i.size, i.bytes)) = some (some (.agg #[.int .i64 0, .string ByteArray.empty, .int .i64 0, .int .i64 0]), 4, 40) := by kernel_rfl

theorem ownsRow_shape {w : World} {base : Nat} {e : TypeId} {size : Nat} {v : Value} {n : Nat} {xs : List Value} (h : w.ownsRow base e size v n xs) : ∃ ao cap, v = .slice ao n cap := by
  rcases h.2 with ⟨rfl, h0⟩ | ⟨g, cap, cur, rfl, _⟩
  · exact ⟨none, 0, by rw [h0]⟩
  · exact ⟨_, _, rfl⟩

/-- What the loop keeps. -/
def SigRel (s : ByteArray) (w : World) (v iv : Value) (wr : World) : Prop :=
  ∃ (pos : Nat) (acc : List Sg), pos ≤ s.size ∧ iv = .int .i64 pos ∧ acc.length ≤ 500 ∧ Hid (scan s pos acc = scan s 0 []) ∧ Hid (wr.ownsRow w.heap.size 36 4 v acc.length (sgCells acc)) ∧ Below w.heap.size w wr

set_option maxRecDepth 100000 in
set_option maxHeartbeats 2000000 in
theorem implSignsOf_in (s : ByteArray) (w : World) (hs : s.size ≤ 1500) (hT : Lib.Utf8Tabs 0 1 w) : Calls Tryd.prog 5 #[.string s] w (SignEnd s w) := by
  have hd : decide ((1500 : Int) < (s.size : Int)) = false := by simp; omega
  have HSR : Hid (signsR s = scan s 0 []) := by show _ = _; rw [signsR, if_neg (by omega)]
  have HT := hide hT
  clear hT
  go_enter Tryd.func5, Tryd.ntmps5
  go_wp2
  go_loopw [4, 5] (fun v iv wr => SigRel s w v iv wr) (fun _ iv _ => s.size - (intOf iv).toNat)
  case atStart => exact ⟨0, [], Nat.zero_le _, rfl, by simp, rfl, ownsRow_none w _ _ _ (Nat.le_refl _), (Below.refl _ _).alloc (Nat.le_refl _) _⟩
  case round =>
    obtain ⟨pos, acc, hps, rfl, hal, HSC, HO, hb⟩ := hrel
    obtain ⟨ao, cap, hv⟩ := ownsRow_shape HO.out
    subst hv
    by_cases hp : pos < s.size
    · have hi0 : (0 : Int) ≤ (pos : Int) := by omega
      have hi1 : (pos : Int) ≤ (s.size : Int) := by omega
      obtain ⟨t, ht⟩ : ∃ t, t = s.extract pos s.size := ⟨_, rfl⟩
      have hts : t.size = s.size - pos := by rw [ht, ByteArray.size_extract]; omega
      have htl : t.data.toList = rest s pos := by rw [ht]; exact rest_extract s pos
      have hsl : ∀ wx : World, (Instr.slice 9 (.string s) (some (.int .i64 (pos : Int))) none none).run Tryd.prog wx = .ok (.string t) wx := fun wx => by
        rw [run_slice_string_from_if wx 9 s .i64 (pos : Int) Tryd.underlying9, if_pos ⟨hi0, hi1⟩, ht]
        rfl
      have CB := fun w h => hide (beginning_any t w (by omega) (by omega) h)
      unfold BegEnd at CB
      simp only [htl] at CB
      have HB := hide hb
      have HT2 := hide (tabs_stay HT.out hb (Nat.le_refl _))
      clear ht hb
      go_wp2_with fail
      refine (unhide (CB _ HT2.out)).mono ?_
      rintro e w1 ⟨n, rfl, hn1, hn2, hn3, hb1⟩
      have hs1 := hb1.size
      have HN := hide hn3
      have HB1 := hide hb1
      clear hn3 hb1
      by_cases hk0 : kindB (rest s pos) = 0
      · have hn : n = sizeOfB (rest s pos) := HN.out (by rw [hk0]; decide)
        have HS2 : Hid (scan s (pos + n) acc = scan s 0 []) := by show _ = _; rw [hn, ← scan_skip hp hk0]; exact HSC.out
        have HO2 := hide (ownsRow_stays HO.out HB1.out)
        have HB2 : Hid (Below w.heap.size w w1) := HB.out.trans (HB1.out.mono HB.out.size)
        simp only [hk0]
        clear hn HN
        go_wp2
        go_roundw
        case rel => exact ⟨pos + n, acc, by omega, by go_num, hal, HS2, HO2, HB2.out⟩
        case measure => simp [intOf]; omega
      · have hk0' : (kindB (rest s pos) == 0) = false := by simpa using hk0
        have hpn : pos + n ≤ s.size := by omega
        obtain ⟨u, hu⟩ : ∃ u, u = s.extract pos (pos + n) := ⟨_, rfl⟩
        have hus : u.size = n := by rw [hu]; exact part_size s pos n hpn
        have hul : u.data.toList = (rest s pos).take n := by rw [hu]; exact part_extract s pos n
        have hsl2 : ∀ wx : World, (Instr.slice 9 (.string s) (some (.int .i64 (pos : Int))) (some (.int .i64 ((pos : Int) + (n : Int)))) none).run Tryd.prog wx = .ok (.string u) wx := fun wx => by
          rw [run_slice_string (P := Tryd.prog) (w := wx) 9 s .i64 .i64 pos ((pos : Int) + (n : Int)) Tryd.underlying9 (by omega) (by omega) (by omega), hu]
          congr 3
        obtain ⟨k, hk⟩ : ∃ k, k = kindB (rest s pos) := ⟨_, rfl⟩
        rw [← hk] at hk0' ⊢
        have HU := hide hu
        have HK := hide hk
        clear hu hk
        go_wp2_with fail
        refine (clone_text u _ (by omega)).mono ?_
        rintro e w2 ⟨rfl, hb2⟩
        have hs2 := hb2.size
        have HO2 := hide (ownsRow_stays (ownsRow_stays HO.out HB1.out) hb2)
        have HB2 : Hid (Below w.heap.size w w2) := (HB.out.trans (HB1.out.mono HB.out.size)).trans (hb2.mono (by have := HB.out.size; omega))
        clear hb2
        go_wp2_with fail
        have hcs := SgCell.new w2 ⟨k, u, 0, pos⟩ 36
        have CF := fun w => hide (fits_any ⟨k, u, 0, pos⟩ w)
        have hfit : fitsQ k u.size = fitsQ (kindB (rest s pos)) (sizeOfB (rest s pos)) := by
          rw [hus, HK.out]
          by_cases hm1 : kindB (rest s pos) = -1
          · rw [hm1]; rfl
          · rw [HN.out hm1]
        obtain ⟨fb, hfb⟩ : ∃ fb, fb = fitsQ k u.size := ⟨_, rfl⟩
        simp only [← hfb] at CF
        rw [← hfb] at hfit
        refine (unhide (CF _)).mono ?_
        rintro e w3 ⟨rfl, hb3⟩
        have hs3 : w2.heap.size < w3.heap.size := by have := hb3.size; simp at this; omega
        have hcs3 := hcs.stays hb3 (by simp)
        have hfz : ∀ o, w3.frozen? ⟨w2.heap.size, o, none⟩ = false := fun o => by
          rw [hb3.frozen (p := ⟨w2.heap.size, o, none⟩) (by simp)]
          exact Lib.frozen_of_heap (heap_alloc_new w2 _) o
        have hb23 : Below w2.heap.size w2 w3 := ((Below.refl _ _).alloc (Nat.le_refl _) _).trans (hb3.mono (by simp))
        have HO3 := hide (ownsRow_stays HO2.out hb23)
        have HB3 : Hid (Below w.heap.size w w3) := HB2.out.trans (hb23.mono HB2.out.size)
        have HC3 := hide hcs3
        have HFZ := hide hfz
        have hbs := HB2.out.size
        clear hcs hcs3 hfz hb3 hb23
        cases fb with
        | false =>
          have HF : Hid (signsR s = ([], pos + 1)) := by
            show _ = _
            rw [HSR.out, ← HSC.out, scan_stop hp hk0 (.inl hfit.symm)]
          clear hfit hfb
          go_wp2
          go_ret2
          exact SignEnd.non HF.out (by simp) HB3.out
        | true =>
          by_cases h500 : acc.length = 500
          · have HF : Hid (signsR s = ([], pos + 1)) := by
              show _ = _
              rw [HSR.out, ← HSC.out, scan_stop hp hk0 (.inr (by omega))]
            have h500' : ((acc.length : Int) == 500) = true := by simp; omega
            clear hfit hfb
            go_wp2
            go_ret2
            exact SignEnd.non HF.out (by simp) HB3.out
          · have h500' : ((acc.length : Int) == 500) = false := by simp; omega
            have hkm : kindB (rest s pos) ≠ -1 := by
              intro hm1
              rw [hm1] at hfit
              simp [fitsQ] at hfit
            have hn : n = sizeOfB (rest s pos) := HN.out hkm
            have hdig : k = 2 → u.size ≤ 6 ∧ ∀ j, (h : j < u.size) → 48 ≤ u[j].toNat ∧ u[j].toNat ≤ 57 := by
              intro hk2
              refine ⟨?_, digits_of (HK.out.symm.trans hk2) hn hul⟩
              rw [hk2] at hfb
              simpa [fitsQ] using hfb
            have hsg : (⟨k, u, worthQ k u.data.toList, pos⟩ : Sg) = sgOf s pos := by
              rw [sgOf, ← hn, ← HU.out, ← HK.out, hul]
            have HS2 : Hid (scan s (pos + n) (acc ++ [⟨k, u, worthQ k u.data.toList, pos⟩]) = scan s 0 []) := by
              show _ = _
              rw [hsg, hn, ← scan_take hp hk0 hfit.symm (by omega)]
              exact HSC.out
            have c0 : w3.cell? { block := w2.heap.size, off := 0 } = some (.int .i64 k) := HC3.out.facts.1
            have c1 : w3.cell? { block := w2.heap.size, off := 1 } = some (.string u) := HC3.out.facts.2.1
            have c2 : w3.cell? { block := w2.heap.size, off := 2 } = some (.int .i64 0) := HC3.out.facts.2.2.1
            have c3 : w3.cell? { block := w2.heap.size, off := 3 } = some (.int .i64 pos) := HC3.out.facts.2.2.2
            have CW := fun w => hide (worth_any ⟨k, u, 0, pos⟩ w hdig)
            obtain ⟨nn, hnn⟩ : ∃ nn, nn = worthQ k u.data.toList := ⟨_, rfl⟩
            simp only [← hnn] at CW
            rw [← hnn] at HS2
            clear hfit hfb hdig hsg hkm hn hnn
            go_wp2_with fail
            refine (unhide (CW _)).mono ?_
            rintro e w4 ⟨rfl, hb4⟩
            have hs4 := hb4.size
            have HC4 := hide (HC3.out.stays hb4 hs3)
            have d0 : w4.cell? { block := w2.heap.size, off := 0 } = some (.int .i64 k) := HC4.out.facts.1
            have d1 : w4.cell? { block := w2.heap.size, off := 1 } = some (.string u) := HC4.out.facts.2.1
            have d2 : w4.cell? { block := w2.heap.size, off := 2 } = some (.int .i64 0) := HC4.out.facts.2.2.1
            have d3 : w4.cell? { block := w2.heap.size, off := 3 } = some (.int .i64 pos) := HC4.out.facts.2.2.2
            have f2 : w4.frozen? { block := w2.heap.size, off := 2 } = false := (hb4.frozen (p := ⟨w2.heap.size, 2, none⟩) hs3).trans (HFZ.out 2)
            have hb5 : Below w2.heap.size w4 (w4.setCell ⟨w2.heap.size, 2, none⟩ (.int .i64 nn)) := (Below.refl _ _).setCell (p := ⟨w2.heap.size, 2, none⟩) (Nat.le_refl _) _
            have HO5 := hide (ownsRow_below (ownsRow_stays HO3.out hb4) hb5 (fun j hj => (HO2.out.lt j hj).2))
            have HB5 : Hid (Below w.heap.size w (w4.setCell ⟨w2.heap.size, 2, none⟩ (.int .i64 nn))) := (HB3.out.trans (hb4.mono (by omega))).trans (hb5.mono hbs)
            have hs5 : w.heap.size ≤ (w4.setCell ⟨w2.heap.size, 2, none⟩ (.int .i64 nn)).heap.size := HB5.out.size
            clear hb4 hb5 c0 c1 c2 c3
            go_wp2_with (at_builtin; refine wpList_app4 rfl _ _ 22 rfl w.heap.size 36 _ 40 Tryd.underlying22 infoSi4 rfl (.slice ao acc.length cap) acc.length (sgCells acc) ⟨k, u, nn, pos⟩ rfl HO5.out ?hx ?h63 ?hby hs5 ?_)
            case hx => simp [Act.eval]
            case h63 => unfold maxLen; omega
            case hby => omega
            intro v' w6 hown6 hb6 _
            have HO6 : Hid (w6.ownsRow w.heap.size 36 4 v' (acc ++ [(⟨k, u, nn, pos⟩ : Sg)]).length (sgCells (acc ++ [(⟨k, u, nn, pos⟩ : Sg)]))) := by
              rw [sgCells_append, List.length_append]
              have e1 : sgCells [⟨k, u, nn, pos⟩] = (⟨k, u, nn, pos⟩ : Sg).cells := by simp [sgCells]
              rw [e1]
              exact hown6
            have HB6 : Hid (Below w.heap.size w w6) := HB5.out.trans hb6
            clear hown6 hb6
            go_wp2
            go_roundw
            case rel => exact ⟨pos + n, _, by omega, by go_num, by simp; omega, HS2, HO6, HB6.out⟩
            case measure => simp [intOf]; omega
    · have HF : Hid (scan s 0 [] = (acc, 0)) := by show _ = _; rw [← HSC.out, scan_end hp]
      go_wp2
      go_ret2
      refine ⟨_, by rw [HSR.out, HF.out]; rfl, ?_, hb⟩
      rw [HSR.out, HF.out]
      exact HO.out

theorem implSignsOf_long (s : ByteArray) (w : World) (hs : 1500 < s.size) (_h : s.size ≤ 1048576) : Calls Tryd.prog 5 #[.string s] w (SignEnd s w) := by
  have HF : Hid (signsR s = ([], 1)) := by show _ = _; rw [signsR, if_pos hs]
  go_enter Tryd.func5, Tryd.ntmps5
  go_wp2
  go_ret2
  exact SignEnd.non HF.out (by simp) (Below.refl _ _)

theorem implSignsOf_any (s : ByteArray) (w : World) (hs : s.size ≤ 1048576) (hT : Lib.Utf8Tabs 0 1 w) : Calls Tryd.prog 5 #[.string s] w (SignEnd s w) := by
  by_cases h : 1500 < s.size
  · exact implSignsOf_long s w h hs
  · exact implSignsOf_in s w (by omega) hT
end Go.Proofs.YtfnmpohcoabenaaDoor
