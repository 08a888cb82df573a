/-
  Walks of the program: the place of an entry by its name.
-/
import Derived.Test.YthhmonkfhjfagaaEntW
import Derived.Test.YthhmonkfhjfagaaHasW
namespace Go.Proofs.Ythhmonkfhjfagaa
open Go.RowKit

set_option maxRecDepth 100000 in
set_option maxHeartbeats 2000000 in
theorem implEntryAt_any (nv mv pv : Value) (ms : List Mo) (m : Int) (s : ByteArray) (w : World) (hN : SlV nv) (hM : MosAt w mv ms) (hP : SlV pv) (he : ∀ x ∈ ms, x.ents.length ≤ 1048576) :
    Calls Try.prog 7 #[.agg #[nv, mv, pv], .int .i64 m, .string s] w fun e w' => e = .returned (.int .i64 (entAt ms m s)) ∧ Below w.heap.size w w' := by
  have hb1 : Below w.heap.size w (w.alloc (.cells #[nv, mv, pv] 33)) := (Below.refl _ _).alloc (Nat.le_refl _) _
  have hb2 : Below w.heap.size w ((w.alloc (.cells #[nv, mv, pv] 33)).alloc (.cells #[.string s] 9)) := hb1.alloc hb1.size _
  have hz : (w.alloc (.cells #[nv, mv, pv] 33)).heap.size = w.heap.size + 1 := by simp
  have hz2 : ((w.alloc (.cells #[nv, mv, pv] 33)).alloc (.cells #[.string s] 9)).heap.size = w.heap.size + 2 := by simp
  have HM := hide (hM.stays hb2)
  have hs : ((w.alloc (.cells #[nv, mv, pv] 33)).alloc (.cells #[.string s] 9)).cell? ⟨w.heap.size + 1, 0, none⟩ = some (.string s) := by rw [← hz, World.cell?_alloc_new]; rfl
  have HX := ((Boxed.made w nv mv pv 33).stays ((Below.refl _ (w.alloc (.cells #[nv, mv, pv] 33))).alloc (Nat.le_refl _) (.cells #[.string s] 9))).c1
  have HB := hide hb2
  have CI := fun ev es z h1 h2 h3 h4 => hide (indexEnt_any ev es ⟨w.heap.size + 1, 0, none⟩ s z h1 h2 h3 h4)
  have HC := hide hs
  have HXX := hide ((Boxed.made w nv mv pv 33).stays ((Below.refl _ (w.alloc (.cells #[nv, mv, pv] 33))).alloc (Nat.le_refl _) (.cells #[.string s] 9)))
  clear hb1 hb2 hz hs hz2
  obtain ⟨ao, an, ac, rfl⟩ := hN
  obtain ⟨mo, mc, rfl, _⟩ := hM
  obtain ⟨po, pn, pc, rfl⟩ := hP
  obtain ⟨n, en⟩ : ∃ n, ms.length = n := ⟨_, rfl⟩
  have EN := hide en
  have HE := hide he
  rw [en] at HM HX HB HC HXX ⊢
  clear en he
  have CB := fun z => hide (hasMon_any (.slice ao an ac) (.slice po pn pc) mo n mc m z)
  obtain ⟨W1, hW⟩ : ∃ W1, (w.alloc (.cells #[.slice ao an ac, .slice mo n mc, .slice po pn pc] 33)).alloc (.cells #[.string s] 9) = W1 := ⟨_, rfl⟩
  have HW := hide hW
  obtain ⟨c0, c1, c2, _⟩ := HXX.out
  rw [hW] at HM HX HB HC HXX c0 c1 c2
  have HZ2 : Hid (w.heap.size + 1 < W1.heap.size) := by rw [← hW]; show _ < _; simp
  clear hW
  obtain ⟨q, eq⟩ : ∃ q, (decide (0 ≤ m) && decide (m < (n : Int))) = q := ⟨_, rfl⟩
  have EQ := hide eq
  rw [eq] at CB
  clear eq
  cases q with
  | false =>
    have HF : Hid (entAt ms m s = -1) := entAt_out (fun q => by
      have := EQ.out
      rw [EN.out] at q
      simp [q.1, q.2] at this) s
    go_enter Try.func7, Try.ntmps7
    go_wp2_with fail
    rw [HW.out]
    refine (unhide (CB _)).mono ?_
    rintro e w3 ⟨rfl, hb3⟩
    have HB3 := hide (HB.out.trans (hb3.mono HB.out.size))
    clear hb3
    go_wp2
    go_ret
    exact ⟨by rw [HF.out]; rfl, HB3.out⟩
  | true =>
  have hm2 : 0 ≤ m ∧ m < (n : Int) := by simpa using EQ.out
  obtain ⟨k, ek⟩ : ∃ k : Nat, m = (k : Int) := ⟨m.toNat, by omega⟩
  subst ek
  have hk : k < n := by omega
  have hkx : k < ms.length := by rw [EN.out]; exact hk
  have hk0 : (0 : Int) ≤ (k : Int) := by omega
  have hk' : (k : Int) < (n : Int) := by omega
  have HF : Hid (entAt ms (k : Int) s = firstAt (entN s) ms[k].ents) := entAt_in hkx s
  have hle := HE.out _ (List.getElem_mem hkx)
  go_enter Try.func7, Try.ntmps7
  go_wp2_with fail
  rw [HW.out]
  refine (unhide (CB _)).mono ?_
  rintro e w3 ⟨rfl, hb3⟩
  have HM3 := hide (HM.out.stays hb3)
  have HB3 := hide (HB.out.trans (hb3.mono HB.out.size))
  have hc3 := (hb3.cell (p := ⟨w.heap.size + 1, 0, none⟩) HZ2.out).trans HC.out
  have HZ3 : Hid (w.heap.size + 1 < w3.heap.size) := Nat.lt_of_lt_of_le HZ2.out hb3.size
  clear c0 c1 c2
  obtain ⟨c0, c1, c2, _⟩ := HXX.out.stays hb3
  obtain ⟨ao', c', e1, hc1⟩ := HM3.out
  injection e1 with e2 e3 e4
  subst e2
  obtain ⟨a, vv, qv, ev, rfl, hpb, hx⟩ := hc1 k hkx
  obtain ⟨p, hpa⟩ : ∃ p, a.add (k * 4) = p := ⟨_, rfl⟩
  rw [hpa] at hx
  have CE := CI _ _ _ hx.ents hle HZ3.out hc3
  have d3 := hx.c3
  obtain ⟨eo, ec, rfl, _⟩ := hx.ents
  obtain ⟨x, ex⟩ : ∃ x, ms[k] = x := ⟨_, rfl⟩
  simp only [ex] at HF CE d3
  clear ex hx hc1 e3 e4 CI hle hb3
  go_wp2_with fail
  refine (unhide CE).mono ?_
  rintro e w1 ⟨rfl, hb1⟩
  have HB4 := hide (HB3.out.trans (hb1.mono HB3.out.size))
  clear hb1
  go_wp2
  go_ret
  exact ⟨by rw [HF.out]; rfl, HB4.out⟩
end Go.Proofs.Ythhmonkfhjfagaa
