/-
  Walks: decimal figures read, by the program; the law.
-/
import Derived.Test.YtgbplfahbkdalaaDoorRdS
namespace Go.Proofs.YtgbplfahbkdalaaDoor
open Go.RowKit

/-- What the loop keeps: the first figures are worth so much. -/
def RdIRel (ds : List Int) (nv iv : Value) : Prop :=
  ∃ (k : Nat) (n : Int), k ≤ ds.length ∧ iv = .int .i64 k ∧ nv = .int .i64 n ∧ Hid (n = val10 (ds.take k)) ∧ 0 ≤ n ∧ n < 10000000000

theorem RdIRel.next {ds : List Int} {k : Nat} (hk : k < ds.length) : val10 (ds.take (k + 1)) = 10 * val10 (ds.take k) + ds.getD k 0 := by
  rw [List.take_add_one, List.getElem?_eq_getElem hk, List.getD_eq_getElem?_getD, List.getElem?_eq_getElem hk]
  exact val10_snoc _ _
theorem RdIRel.lt {ds : List Int} {k : Nat} (hk : k ≤ ds.length) (h10 : k ≤ 10) (hd : ∀ d ∈ ds, 0 ≤ d ∧ d < 10) : 0 ≤ val10 (ds.take k) ∧ val10 (ds.take k) < 10000000000 := by
  have := val10_in k (ds.take k) (by simp; omega) (fun d h => hd d (List.mem_of_mem_take h))
  have h2 : (10 : Int) ^ k ≤ 10 ^ 10 := by
    have : (10 : Nat) ^ k ≤ 10 ^ 10 := Nat.pow_le_pow_right (by omega) h10
    exact_mod_cast this
  omega

theorem head_of {s : ByteArray} {ds : List Int} (h : numsB 10 s.data.toList = some ds) (h0 : 0 < s.size) : (ds.head? = some 0 ↔ s[0].toNat = 48) := by
  have hb := nums10_bytes _ _ h
  have hl := rd_len h
  have e : s[0] = s.data.toList[0]'(by simpa using h0) := rfl
  match ds, hl, hb with
  | [], hl, _ => simp at hl; omega
  | d :: r, _, hb =>
    have h1 := congrArg (fun l => l[0]?) hb
    simp only [List.getElem?_map, List.getElem?_eq_getElem (show 0 < s.data.toList.length by simpa using h0)] at h1
    simp only [Option.map_some, List.getElem?_cons_zero, Option.some.injEq] at h1
    rw [e]
    simp only [List.head?_cons, Option.some.injEq]
    simp at h1 ⊢
    omega

set_option maxRecDepth 100000 in
set_option maxHeartbeats 1000000 in
/-- The part behind the figures: 'needless' is whether there are needless noughts. -/
theorem implReadDecimal_yes (s : ByteArray) (w : World) (h0 : 0 < s.size) (hs : s.size ≤ 10) : Calls Tryd.prog 8 #[.string s] w (RdEnd s w) := by
  have hd : decide ((10 : Int) < (s.size : Int)) = false := by simp; omega
  have hne : s.toList.isEmpty = false := by
    have : s.toList.length = s.size := by rw [ByteArray.toList_eq, Array.length_toList]; rfl
    cases e : s.toList with
    | nil => rw [e] at this; simp at this; omega
    | cons => rfl
  obtain ⟨c, hc⟩ : ∃ c : Nat, c = s[0].toNat := ⟨_, rfl⟩
  have hb8 : c < 256 := by rw [hc]; exact s[0].toNat_lt
  have hix : ∀ wx : World, (Instr.index 9 (.string s) (.int .i64 0)).run Tryd.prog wx = .ok (.int .u8 (c : Int)) wx := fun wx => by
    rw [hc]; exact index_str Tryd.underlying9 s 0 h0 wx
  have HC := hide hc
  clear hc
  by_cases hnl : 1 < s.size ∧ c = 48
  · have hc48 : ((c : Int) == 48) = true := by simp; omega
    have h1s : 1 < s.size := hnl.1
    have HO : Hid (∀ ds, numsB 10 s.data.toList = some ds → rdOk s ds = false) := fun ds hds => by
      have := (head_of hds h0).2 (by rw [← HC.out]; exact hnl.2)
      simp [rdOk, this, h1s]
    clear hnl
    go_enter Tryd.func8, Tryd.ntmps8
    go_wp2_with fail
    refine (figuresOf_any 10 s _ (by omega) (by omega)).mono ?_
    rintro e w1 (⟨v, ds, rfl, hnums, hown, hb⟩ | ⟨rfl, hnums, hb⟩)
    · have HN := hide hnums
      clear hnums
      go_wp2
      go_ret2
      exact ⟨.inr ⟨.inr ⟨ds, HN.out, HO.out ds HN.out⟩, rfl⟩, hb⟩
    · have HN := hide hnums
      clear hnums
      go_wp2
      go_ret2
      exact ⟨.inr ⟨.inl HN.out, rfl⟩, hb⟩
  · have HO : Hid (∀ ds, numsB 10 s.data.toList = some ds → rdOk s ds = decide (val10 ds ≤ 1000000000)) := fun ds hds => by
      have h2 := head_of hds h0
      rw [← HC.out] at h2
      by_cases h1s : 1 < s.size
      · have : ¬ ds.head? = some 0 := fun e => hnl ⟨h1s, h2.1 e⟩
        simp [rdOk, this, h0]
      · simp [rdOk, h1s, h0]
    have hcs : s.size ≤ 1 ∨ (1 < s.size ∧ ((c : Int) == 48) = false) := by
      by_cases h1s : 1 < s.size
      · refine .inr ⟨h1s, ?_⟩
        simp; omega
      · exact .inl (by omega)
    clear hnl
    rcases hcs with hcs | ⟨hcs, hcs2⟩
    all_goals
      go_enter Tryd.func8, Tryd.ntmps8
      go_wp2_with fail
      refine (figuresOf_any 10 s _ (by omega) (by omega)).mono ?_
      rintro e w1 (⟨v, ds, rfl, hnums, hown, hb⟩ | ⟨rfl, hnums, hb⟩)
      · have hlen := rd_len hnums
        have hin : ∀ d ∈ ds, 0 ≤ d ∧ d < 10 := fun d hd => ⟨(numsB_in _ _ hnums d hd).1, by have := (numsB_in _ _ hnums d hd).2.2; omega⟩
        have HB := hide hb
        have HN := hide hnums
        have HQ := hide (HO.out ds hnums)
        rcases hown.2 with ⟨rfl, hz⟩ | ⟨g, cap, cur, rfl, _, hgl, _, _, _, _⟩
        · omega
        · have hcell : ∀ i, i < ds.length → w1.cell? ⟨g, i, none⟩ = some (.int .i64 (ds.getD i 0)) := fun i hi => by
            have := hown.cellAt i (by omega)
            rw [this, List.getElem?_map, List.getD_eq_getElem?_getD, List.getElem?_eq_getElem (by omega)]
            rfl
          have HCell := hide hcell
          have HIn := hide hin
          have HL := hide hlen
          have hl1 : ds.length ≤ s.size := by omega
          have hl2 : s.size ≤ ds.length := by omega
          clear hown hb hnums hcell hin hgl hlen
          go_wp2
          go_loop [7, 37] (fun nv iv => RdIRel ds nv iv) (fun _ i => s.size - (intOf i).toNat)
          case atStart => exact ⟨0, 0, by omega, rfl, rfl, rfl, by omega, by omega⟩
          case round =>
            obtain ⟨k, n, hk, rfl, rfl, HV, hn0, hn1⟩ := hrel
            by_cases hlt : k < s.size
            · have hcx := HCell.out k (by omega)
              have hnx := RdIRel.next (ds := ds) (k := k) (by omega)
              have hbd := RdIRel.lt (ds := ds) (k := k + 1) (by omega) (by omega) HIn.out
              have hxi : 0 ≤ ds.getD k 0 ∧ ds.getD k 0 < 10 := HIn.out _ (by rw [List.getD_eq_getElem?_getD, List.getElem?_eq_getElem (by omega)]; exact List.getElem_mem _)
              obtain ⟨x, ex⟩ : ∃ x, x = ds.getD k 0 := ⟨_, rfl⟩
              rw [← ex] at hcx hnx hxi
              have hnv := HV.out
              have HX : Hid (10 * n + x = val10 (ds.take (k + 1)) ∧ 0 ≤ 10 * n + x ∧ 10 * n + x < 10000000000) := by
                refine ⟨?_, ?_, ?_⟩ <;> omega
              clear hnx hbd ex hnv
              go_wp2
              go_round
              case rel =>
                obtain ⟨a1, a2, a3⟩ := HX.out
                exact ⟨k + 1, _, by omega, by go_num, rfl, by show _ = _; omega, by omega, by omega⟩
              case measure => simp [intOf]; omega
            · have hv := HV.out
              rw [List.take_of_length_le (by omega)] at hv
              have HV2 := hide hv
              clear hv
              by_cases hbig : 1000000000 < n
              · go_wp2
                go_ret2
                exact ⟨.inr ⟨.inr ⟨ds, HN.out, by rw [HQ.out, ← HV2.out]; simp; omega⟩, rfl⟩, HB.out⟩
              · go_wp2
                go_ret2
                exact ⟨.inl ⟨ds, HN.out, by rw [HQ.out, ← HV2.out]; simp; omega, by rw [← HV2.out]; rfl⟩, HB.out⟩
      · have HN := hide hnums
        clear hnums
        go_wp2
        go_ret2
        exact ⟨.inr ⟨.inl HN.out, rfl⟩, hb⟩

theorem implReadDecimal_no (s : ByteArray) (w : World) (hs : 10 < s.size) (_h : s.size ≤ 1048576) :
    Calls Tryd.prog 8 #[.string s] w fun e w' => e = .returned (.tuple #[.int .i64 0, .bool false]) ∧ w = w' := by
  have hne : s.toList.isEmpty = false := by
    have : s.toList.length = s.size := by rw [ByteArray.toList_eq, Array.length_toList]; rfl
    cases e : s.toList with
    | nil => rw [e] at this; simp at this; omega
    | cons => rfl
  go_enter Tryd.func8, Tryd.ntmps8
  go_wp2
  go_ret2
  exact ⟨rfl, rfl⟩
theorem implReadDecimal_empty (s : ByteArray) (w : World) (hs : s.size = 0) :
    Calls Tryd.prog 8 #[.string s] w fun e w' => e = .returned (.tuple #[.int .i64 0, .bool false]) ∧ w = w' := by
  have hne : s.toList.isEmpty = true := by
    have : s.toList.length = s.size := by rw [ByteArray.toList_eq, Array.length_toList]; rfl
    cases e : s.toList with
    | nil => rfl
    | cons => rw [e] at this; simp at this; omega
  go_enter Tryd.func8, Tryd.ntmps8
  go_wp2
  go_ret2
  exact ⟨rfl, rfl⟩

/-- What is handed back hangs on the text alone. -/
theorem RdEnd.one (s : ByteArray) : ∃ (n : Int) (c : Bool), ∀ w e w', RdEnd s w e w' → e = .returned (.tuple #[.int .i64 n, .bool c]) ∧ Below w.heap.size w w' := by
  cases hn : numsB 10 s.data.toList with
  | none =>
    refine ⟨0, false, fun w e w' h => ?_⟩
    obtain ⟨⟨ds, h1, _, _⟩ | ⟨_, rfl⟩, hb⟩ := h
    · rw [hn] at h1; cases h1
    · exact ⟨rfl, hb⟩
  | some ds0 =>
    cases ho : rdOk s ds0 with
    | true =>
      refine ⟨val10 ds0, true, fun w e w' h => ?_⟩
      obtain ⟨⟨ds, h1, _, rfl⟩ | ⟨h1 | ⟨ds, h1, h2⟩, _⟩, hb⟩ := h
      · rw [hn] at h1
        have := Option.some.inj h1
        subst this
        exact ⟨rfl, hb⟩
      · rw [hn] at h1; cases h1
      · rw [hn] at h1
        have := Option.some.inj h1
        subst this
        rw [ho] at h2; cases h2
    | false =>
      refine ⟨0, false, fun w e w' h => ?_⟩
      obtain ⟨⟨ds, h1, h2, _⟩ | ⟨_, rfl⟩, hb⟩ := h
      · rw [hn] at h1
        have := Option.some.inj h1
        subst this
        rw [ho] at h2; cases h2
      · exact ⟨rfl, hb⟩

theorem RdEnd.empty {s : ByteArray} {w w' : World} {e : Ending} (hs : s.size = 0) (h : RdEnd s w e w') : e = .returned (.tuple #[.int .i64 0, .bool false]) ∧ Below w.heap.size w w' := by
  obtain ⟨⟨ds, _, h2, _⟩ | ⟨_, rfl⟩, hb⟩ := h
  · simp [rdOk, hs] at h2
  · exact ⟨rfl, hb⟩

end Go.Proofs.YtgbplfahbkdalaaDoor
