/-
  The law of a right node, out of its pieces.
-/
import Derived.Test.YtdfahpachbhglaaGreatDoorLawJ
import Derived.Test.YtdfahpachbhglaaGreatDoorLawE
import Derived.Test.YtdfahpachbhglaaGreatDoorImpO
import Derived.Test.YtdfahpachbhglaaGreatDoorTreeM
import Derived.Test.YtdfahpachbhglaaGreatDoorAidCard
import Derived.Test.YtdfahpachbhglaaGreatDoorTreeW
import Derived.Test.YtdfahpachbhglaaGreatDoorRowP
import Derived.Handy
namespace Go.Proofs.YtdfahpachbhglaaGreatDoor
open Go.RowKit

theorem le_sum {α : Type} (f : α → Nat) : ∀ (xs : List α) (x : α), x ∈ xs → f x ≤ (xs.map f).sum
  | y :: xs, x, h => by
    rw [List.map_cons, List.sum_cons]
    rcases List.mem_cons.1 h with h | h
    · subst h; omega
    · have := le_sum f xs x h; omega
theorem szStrs_in {xs : List ByteArray} (h : szStrs xs ≤ 1048576) : SsIn xs := by
  unfold szStrs at h
  exact ⟨by omega, fun x hx => by have := le_sum ByteArray.size xs x hx; omega⟩
/-- A program that holds no more than may be. -/
structure PgIn (x : Pg) : Prop where
  len : PgLen x
  nodes : NsIn x.nodes
  mons : ∀ m ∈ x.mons, MoIn m
  pros : ∀ p ∈ x.pros, PrIn p
theorem szPg_in {x : Pg} (h : szPg x ≤ 1048576) : PgIn x := by
  unfold szPg szNds szMos szPrs at h
  have hn : ∀ y ∈ x.nodes, szNd y ≤ 1048576 := fun y hy => by have := le_sum szNd x.nodes y hy; omega
  have hm : ∀ y ∈ x.mons, szMo y ≤ 1048576 := fun y hy => by have := le_sum szMo x.mons y hy; omega
  have hp : ∀ y ∈ x.pros, szPr y ≤ 1048576 := fun y hy => by have := le_sum szPr x.pros y hy; omega
  have hmi : ∀ m ∈ x.mons, MoIn m := fun m hmm => by
    have h1 := hm m hmm
    unfold szMo at h1
    have h2 : szEns m.ents ≤ 1048576 := by omega
    unfold szEns at h2
    exact ⟨by omega, szStrs_in (by omega), szStrs_in (by omega), by omega, fun e he => by
      have := le_sum szEn m.ents e he
      have e2 : szEn e = e.name.size + e.param.size := rfl
      omega⟩
  have hpi : ∀ p ∈ x.pros, PrIn p := fun p hpp => by
    have h1 := hp p hpp
    unfold szPr at h1
    exact ⟨by omega, szStrs_in (by omega), szStrs_in (by omega)⟩
  have hni : NsIn x.nodes := fun y hy => by
    have h1 := hn y hy
    unfold szNd at h1
    omega
  exact ⟨⟨by omega, by omega, by omega, fun y hy => (hni y hy).1, fun y hy => ⟨(hmi y hy).vars.1, (hmi y hy).queues.1, (hmi y hy).len⟩, fun y hy => ⟨(hpi y hy).uses.1, (hpi y hy).vars.1⟩⟩, hni, hmi, hpi⟩

/-- A program at three values. -/
structure PgAt (w : World) (nv mv pv : Value) (x : Pg) : Prop where
  nodes : NdsAt w nv x.nodes
  mons : MosAt w mv x.mons
  pros : PrsAt w pv x.pros
theorem PgAt.stays {w w' : World} {nv mv pv : Value} {x : Pg} (h : PgAt w nv mv pv x) (hb : Below w.heap.size w w') : PgAt w' nv mv pv x := ⟨h.nodes.stays hb, h.mons.stays hb, h.pros.stays hb⟩
theorem ProgC.at {base : Nat} {w : World} {a b c : Value} {x : Pg} (h : ProgC base w [a, b, c] x) : PgAt w a b c x ∧ NdsRoom w a x.nodes.length := by
  obtain ⟨nv, mv, pv, e, h1, h2, h3⟩ := h
  injection e with e1 e2
  injection e2 with e2 e3
  injection e3 with e3 _
  subst e1 e2 e3
  exact ⟨⟨h1.at, h2.at, h3.at⟩, h1.room⟩

/-- What holds while a law on one program runs: the argument in its box, the copy in its box. -/
structure LawB (w : World) (nv mv pv : Value) (x : Pg) (g : Nat) (a b c : Value) (z : World) : Prop where
  bA : Box z w.heap.size #[nv, mv, pv] 26
  b0 : Box z g #[a, b, c] 34
  bel : Below w.heap.size w z
  arg : PgAt z nv mv pv x
  own : PgAt z a b c x
theorem LawB.stays {w : World} {nv mv pv : Value} {x : Pg} {g : Nat} {a b c : Value} {z z' : World} (h : LawB w nv mv pv x g a b c z) (hb : Below z.heap.size z z') : LawB w nv mv pv x g a b c z' :=
  ⟨h.bA.stays hb, h.b0.stays hb, h.bel.trans (hb.mono h.bel.size), h.arg.stays hb, h.own.stays hb⟩
theorem LawB.spread {w : World} {nv mv pv : Value} {x : Pg} {g : Nat} {a b c : Value} {z : World} (h : LawB w nv mv pv x g a b c z) :
    z.cell? ⟨w.heap.size, 0, none⟩ = some nv ∧ z.cell? ⟨w.heap.size, 1, none⟩ = some mv ∧ z.cell? ⟨w.heap.size, 2, none⟩ = some pv ∧ z.cell? ⟨g, 0, none⟩ = some a ∧ z.cell? ⟨g, 1, none⟩ = some b ∧ z.cell? ⟨g, 2, none⟩ = some c ∧ Hid (LawB w nv mv pv x g a b c z) :=
  ⟨Lib.cell_of_heap h.bA 0, Lib.cell_of_heap h.bA 1, Lib.cell_of_heap h.bA 2, Lib.cell_of_heap h.b0 0, Lib.cell_of_heap h.b0 1, Lib.cell_of_heap h.b0 2, h⟩
theorem eqProgram_at {w : World} {a b c a' b' c' : Value} {x : Pg} (h : PgAt w a b c x) (k : PgAt w a' b' c' x) (hL : PgLen x) :
    Calls Tryz.prog 8 #[.agg #[a, b, c], .agg #[a', b', c']] w fun e w' => e = .returned (.bool true) ∧ Below w.heap.size w w' :=
  eqProgram_same x a a' b b' c c' w h.nodes k.nodes h.mons k.mons h.pros k.pros hL
theorem toProgram_at {w : World} {nv mv pv : Value} {x : Pg} (h : PgAt w nv mv pv x) (hL : PgLen x) :
    Calls Tryz.prog 6 #[.agg #[nv, mv, pv]] w fun e w' => ∃ o0 n0 c0 o1 n1 c1 o2 n2 c2, e = .returned (.agg #[.slice o0 n0 c0, .slice o1 n1 c1, .slice o2 n2 c2]) ∧ ProgC w.heap.size w' [.slice o0 n0 c0, .slice o1 n1 c1, .slice o2 n2 c2] x ∧ Below w.heap.size w w' :=
  toProgram_any x nv mv pv w h.nodes h.mons h.pros hL

end Go.Proofs.YtdfahpachbhglaaGreatDoor

namespace Go.Proofs.YtdfahpachbhglaaGreatDoor
open Go.RowKit

/-- The bodies of the first i monitors. -/
def bodA (ms : List Mo) (i : Nat) : List Int := (ms.take i).flatMap fun m => m.ents.map En.body
theorem bodA_next {ms : List Mo} {i : Nat} (h : i < ms.length) : bodA ms (i + 1) = bodA ms i ++ ms[i].ents.map En.body := by
  rw [bodA, bodA, List.take_add_one, List.getElem?_eq_getElem h, List.flatMap_append]
  simp only [Option.toList, List.flatMap_cons, List.flatMap_nil, List.append_nil]
theorem bodA_all (ms : List Mo) : bodA ms ms.length = ms.flatMap fun m => m.ents.map En.body := by simp [bodA]
theorem bodA_le (ms : List Mo) (ps : List Pr) (i : Nat) : (bodA ms i).length ≤ (bodiesL ms ps).length := by
  have e : ms.flatMap (fun m => m.ents.map En.body) = bodA ms i ++ (ms.drop i).flatMap fun m => m.ents.map En.body := by
    rw [bodA, ← List.flatMap_append, List.take_append_drop]
  rw [bodiesL, e]
  simp
def bodC (ms : List Mo) (ps : List Pr) (i : Nat) : List Int := bodA ms ms.length ++ (ps.take i).map Pr.body
theorem bodC_all (ms : List Mo) (ps : List Pr) : bodC ms ps ps.length = bodiesL ms ps := by simp [bodC, bodiesL, bodA_all]
theorem bodC_next {ms : List Mo} {ps : List Pr} {i : Nat} (h : i < ps.length) : bodC ms ps (i + 1) = bodC ms ps i ++ [ps[i].body] := by
  rw [bodC, bodC, List.take_add_one, List.getElem?_eq_getElem h, List.map_append, ← List.append_assoc]
  rfl

def BodR (w W1 : World) (ms : List Mo) (v iv : Value) (wr : World) : Prop :=
  ∃ i : Nat, i ≤ ms.length ∧ iv = .int .i64 i ∧ Hid (wr.ownsRow (w.heap.size + 1) 3 1 v (bodA ms i).length ((bodA ms i).map I64)) ∧ Hid (Below W1.heap.size W1 wr)
def BodI (w W1 : World) (l : List Int) (es : List En) (v iv : Value) (wr : World) : Prop :=
  ∃ (j : Nat) (l' : List Int), j ≤ es.length ∧ iv = .int .i64 j ∧ l' = l ++ (es.take j).map En.body ∧ Hid (wr.ownsRow (w.heap.size + 1) 3 1 v l'.length (l'.map I64)) ∧ Hid (Below W1.heap.size W1 wr)
def BodP (w W1 : World) (ms : List Mo) (ps : List Pr) (v iv : Value) (wr : World) : Prop :=
  ∃ i : Nat, i ≤ ps.length ∧ iv = .int .i64 i ∧ Hid (wr.ownsRow (w.heap.size + 1) 3 1 v (bodC ms ps i).length ((bodC ms ps i).map I64)) ∧ Hid (Below W1.heap.size W1 wr)

set_option maxRecDepth 100000 in
set_option maxHeartbeats 2000000 in
theorem l05Bodies_any (nv mv pv : Value) (ms : List Mo) (ps : List Pr) (w : World) (hM : MosAt w mv ms) (hP : PrsAt w pv ps) (hl : (bodiesL ms ps).length ≤ 1048576) (hml : ms.length ≤ 1048576) (hpl : ps.length ≤ 1048576) (hel : ∀ m ∈ ms, m.ents.length ≤ 1048576) :
    Calls Tryz.prog 31 #[.agg #[nv, mv, pv]] w fun e w' => ∃ v, e = .returned v ∧ w'.ownsRow (w.heap.size + 1) 3 1 v (bodiesL ms ps).length ((bodiesL ms ps).map I64) ∧ Below w.heap.size w w' := by
  have hb1 : Below w.heap.size w (w.alloc (.cells #[nv, mv, pv] 34)) := (Below.refl _ _).alloc (Nat.le_refl _) _
  have HM := hide (hM.stays hb1)
  have HP := hide (hP.stays hb1)
  have HX := hide (Boxed.made w nv mv pv 34)
  have HB := hide hb1
  have HS : Hid ((w.alloc (.cells #[nv, mv, pv] 34)).heap.size = w.heap.size + 1) := by show _ = _; simp
  clear hb1
  obtain ⟨ao, c, rfl, _⟩ := hM
  obtain ⟨bo, d, rfl, _⟩ := hP
  go_enter Tryz.func31, Tryz.ntmps31
  go_wp2
  obtain ⟨W1, hW⟩ : ∃ W1, w.alloc (.cells #[nv, .slice ao ms.length c, .slice bo ps.length d] 34) = W1 := ⟨_, rfl⟩
  rw [hW] at HM HP HX HB HS ⊢
  clear hW
  obtain ⟨n, en⟩ : ∃ n, ms.length = n := ⟨_, rfl⟩
  have EN := hide en
  obtain ⟨q, eq⟩ : ∃ q, ps.length = q := ⟨_, rfl⟩
  have EQ := hide eq
  rw [en] at HM
  rw [eq] at HP
  rw [en, eq] at HX ⊢
  rw [en] at hml
  rw [eq] at hpl
  clear en eq
  go_loopw [3, 4] (BodR w W1 ms) (fun _ iv _ => n - (intOf iv).toNat)
  case atStart => exact ⟨0, by omega, rfl, by
    have := ownsRow_empty W1 (w.heap.size + 1) 3 (by rw [HS.out]; exact Nat.le_refl _)
    rw [HS.out] at this
    exact this, (Below.refl _ _).alloc (Nat.le_refl _) _⟩
  case round =>
    obtain ⟨i, hi, rfl, HO, HB2⟩ := hrel
    obtain ⟨c0, c1, c2, _⟩ := HX.out.stays HB2.out
    rw [EN.out] at hi
    by_cases hlt : i < n
    · have hlt' : (i : Int) < (n : Int) := by omega
      have hi0 : (0 : Int) ≤ (i : Int) := by omega
      have hix : i < ms.length := by rw [EN.out]; exact hlt
      have HEL := hide (hel _ (List.getElem_mem hix))
      have HNX := hide (bodA_next hix)
      obtain ⟨x, ex⟩ : ∃ x, ms[i] = x := ⟨_, rfl⟩
      have EX := hide ex
      rw [ex] at HEL HNX
      clear ex
      go_wp2
      go_loopw [3, 5] (BodI w W1 (bodA ms i) x.ents) (fun _ iv _ => x.ents.length - (intOf iv).toNat)
      case atStart => exact ⟨0, bodA ms i, by omega, rfl, by simp, HO.out, HB2.out⟩
      case round =>
        obtain ⟨j, l', hj, rfl, el, HO3, HB3⟩ := hrel
        have EL := hide el
        clear el
        obtain ⟨e0, e1, e2, _⟩ := HX.out.stays HB3.out
        obtain ⟨ao', cc, e5, hc⟩ := HM.out.stays HB3.out
        injection e5 with e6 e7 e8
        subst e6
        obtain ⟨a, vv, qv, ev, rfl, hab, hcell⟩ := hc i hix
        rw [EX.out] at hcell
        obtain ⟨p, hpa⟩ : ∃ p, a.add (i * 4) = p := ⟨_, rfl⟩
        rw [hpa] at hcell
        have d3 := hcell.c3
        obtain ⟨b, cb, rfl, hec⟩ := hcell.ents
        clear hc hcell e7 e8
        obtain ⟨m, em⟩ : ∃ m, x.ents.length = m := ⟨_, rfl⟩
        have EM := hide em
        rw [em] at d3 hj
        have hm : m ≤ 1048576 := by have := HEL.out; omega
        by_cases hlt2 : j < m
        · have hlt2' : (j : Int) < (m : Int) := by omega
          have hj0 : (0 : Int) ≤ (j : Int) := by omega
          have hjx : j < x.ents.length := by rw [EM.out]; exact hlt2
          obtain ⟨b, rfl, hbb, hy⟩ := hec j hjx
          obtain ⟨r, hra⟩ : ∃ r, b.add (j * 3) = r := ⟨_, rfl⟩
          rw [hra] at hy
          have y2 := hy.c2
          have EY : Hid (l' ++ [x.ents[j].body] = bodA ms i ++ (x.ents.take (j + 1)).map En.body) := by
            show _ = _
            rw [EL.out, List.take_add_one, List.getElem?_eq_getElem hjx, List.map_append, ← List.append_assoc]
            rfl
          obtain ⟨y, ey⟩ : ∃ y, x.ents[j].body = y := ⟨_, rfl⟩
          rw [ey] at y2 EY
          have HLN : Hid (l'.length + 1 ≤ 1048576) := by
            show _ ≤ _
            have h1 : (l' ++ [y]).length ≤ (bodA ms (i + 1)).length := by rw [EY.out, HNX.out]; simp; omega
            have h2 := bodA_le ms ps (i + 1)
            simp at h1
            omega
          clear hec hy ey em
          have hwz : w.heap.size + 1 ≤ wr.heap.size := by rw [← HS.out]; exact HB3.out.size
          go_wp2_with (at_builtin; refine wpList_app1 rfl (.tmp 26) (.tmp 37) 67 rfl (w.heap.size + 1) 3 (.int .i64 0) 8 Tryz.underlying67 Tryz.infoInt rfl _ l'.length _ _ rfl HO3.out rfl rfl (by have := HLN.out; unfold maxLen; omega) (by have := HLN.out; omega) hwz ?_)
          intro v' w4 hown4 hb4
          have R : BodI w W1 (bodA ms i) x.ents v' (.int .i64 ((j : Int) + 1)) w4 := ⟨j + 1, l' ++ [y], by rw [EM.out]; omega, rfl, EY.out, hide (by simpa using hown4), HB3.out.trans (by rw [HS.out]; exact hb4)⟩
          clear hown4 hb4
          go_wp2
          go_roundw
          case rel => exact R
          case measure => rw [EM.out]; simp [intOf]; omega
        · have hlt2' : ¬ (j : Int) < (m : Int) := by omega
          have EL2 : Hid (l' = bodA ms (i + 1)) := by
            show _ = _
            rw [EL.out, HNX.out, List.take_of_length_le (by rw [EM.out]; omega)]
          clear hec em
          go_wp2
          go_roundw
          case rel => exact ⟨i + 1, by rw [EN.out]; omega, by go_num, by rw [← EL2.out]; exact HO3.out, HB3.out⟩
          case measure => simp [intOf]; omega
    · have hlt' : ¬ (i : Int) < (n : Int) := by omega
      have ei : i = ms.length := by rw [EN.out]; omega
      have e00 : bodA ms i = bodC ms ps 0 := by simp [bodC, ei]
      have HO1 := HO
      rw [e00] at HO1
      clear e00
      clear HO ei
      go_wp2
      go_loopw [3, 6] (BodP w W1 ms ps) (fun _ iv _ => q - (intOf iv).toNat)
      case atStart => exact ⟨0, by omega, rfl, HO1.out, HB2.out⟩
      case round =>
        clear c0 c1 c2
        obtain ⟨i, hi, rfl, HO3, HB3⟩ := hrel
        obtain ⟨e0, e1, e2, _⟩ := HX.out.stays HB3.out
        rw [EQ.out] at hi
        by_cases hlt : i < q
        · have hlt' : (i : Int) < (q : Int) := by omega
          have hi0 : (0 : Int) ≤ (i : Int) := by omega
          have hix : i < ps.length := by rw [EQ.out]; exact hlt
          have HNX := hide (bodC_next (ms := ms) hix)
          obtain ⟨bo', cc, e5, hc⟩ := HP.out.stays HB3.out
          injection e5 with e6 e7 e8
          subst e6
          obtain ⟨a, uv, vv, rfl, hab, hcell⟩ := hc i hix
          obtain ⟨p, hpa⟩ : ∃ p, a.add (i * 4) = p := ⟨_, rfl⟩
          rw [hpa] at hcell
          have d3 := hcell.c3
          obtain ⟨y, ey⟩ : ∃ y, ps[i].body = y := ⟨_, rfl⟩
          rw [ey] at d3 HNX
          clear hc hcell e7 e8 ey
          have HLN : Hid ((bodC ms ps i).length + 1 ≤ 1048576) := by
            show _ ≤ _
            have h2 : (bodC ms ps (i + 1)).length ≤ (bodiesL ms ps).length := by
              rw [← bodC_all]; simp [bodC]; omega
            rw [HNX.out] at h2
            simp at h2
            omega
          have hwz : w.heap.size + 1 ≤ wr.heap.size := by rw [← HS.out]; exact HB3.out.size
          go_wp2_with (at_builtin; refine wpList_app1 rfl (.tmp 46) (.tmp 53) 67 rfl (w.heap.size + 1) 3 (.int .i64 0) 8 Tryz.underlying67 Tryz.infoInt rfl _ (bodC ms ps i).length _ _ rfl HO3.out rfl rfl (by have := HLN.out; unfold maxLen; omega) (by have := HLN.out; omega) hwz ?_)
          intro v' w4 hown4 hb4
          have R : BodP w W1 ms ps v' (.int .i64 ((i : Int) + 1)) w4 := ⟨i + 1, by rw [EQ.out]; omega, rfl, hide (by rw [HNX.out]; simpa using hown4), HB3.out.trans (by rw [HS.out]; exact hb4)⟩
          clear hown4 hb4
          go_wp2
          go_roundw
          case rel => exact R
          case measure => simp [intOf]; omega
        · have hlt' : ¬ (i : Int) < (q : Int) := by omega
          have ei : i = ps.length := by rw [EQ.out]; omega
          have HF : Hid (bodC ms ps i = bodiesL ms ps) := by show _ = _; rw [ei, bodC_all]
          rw [HF.out] at HO3
          clear ei
          go_wp2
          go_ret
          exact ⟨_, rfl, HO3.out, HB.out.trans (HB3.out.mono HB.out.size)⟩
end Go.Proofs.YtdfahpachbhglaaGreatDoor

namespace Go.Proofs.YtdfahpachbhglaaGreatDoor
open Go.RowKit

/-- One value appended, the block of that value told apart. -/
theorem wpList_app1g {P : Program} {w : World} {ops : Array Oper} {rest : List Oper} {o : Oper} {a : Act} {Q : Exit → Act → World → Prop} {g : Nat} (hg : g = w.heap.size) (hgd : o.guard = none) (s x : Operand) (t : TypeId)
    (ho : o.op = .call { callee := .builtin .append, args := #[s, x], argTypes := #[t, t] })
    (base : Nat) (e : TypeId) (z : Value) (bytes : Nat) (ht : P.underlying t = some (.slice e)) (hi : (P.info? e).map (fun i => (i.zero, i.size, i.bytes)) = some (some z, 1, bytes)) (hzs : z.cells.size = 1)
    (v : Value) (n : Nat) (xs : List Value) (u : Value) (hs : a.eval s = v) (hown : w.ownsRow base e 1 v n xs)
    (hx : a.eval x = .slice (some ⟨g, 0, none⟩) 1 1) (h1 : u.oneCell' = true)
    (h63 : n + 1 ≤ maxLen) (hbytes : (n + 1) * bytes ≤ 140737488355328) (hbase : base ≤ w.heap.size)
    (h : ∀ v' w', w'.ownsRow base e 1 v' (n + 1) (xs ++ [u]) → Below base w w' → wpList P ops Q rest (a.put o.dst v') w') : wpList P ops Q (o :: rest) a (w.alloc (.cells #[u] e)) := by
  subst hg
  exact wpList_app1 hgd s x t ho base e z bytes ht hi hzs v n xs u hs hown hx h1 h63 hbytes hbase h

set_option maxRecDepth 100000 in
set_option maxHeartbeats 2000000 in
theorem bodies_any (nv mv pv : Value) (ms : List Mo) (ps : List Pr) (w : World) (hM : MosAt w mv ms) (hP : PrsAt w pv ps) (hl : (bodiesL ms ps).length ≤ 1048576) (hml : ms.length ≤ 1048576) (hpl : ps.length ≤ 1048576) (hel : ∀ m ∈ ms, m.ents.length ≤ 1048576) :
    Calls Tryz.prog 61 #[.agg #[nv, mv, pv]] w fun e w' => ∃ v, e = .returned v ∧ w'.ownsRow (w.heap.size + 1) 3 1 v (bodiesL ms ps).length ((bodiesL ms ps).map I64) ∧ Below w.heap.size w w' := by
  have hb1 : Below w.heap.size w (w.alloc (.cells #[nv, mv, pv] 34)) := (Below.refl _ _).alloc (Nat.le_refl _) _
  have HM := hide (hM.stays hb1)
  have HP := hide (hP.stays hb1)
  have HX := hide (Boxed.made w nv mv pv 34)
  have HB := hide hb1
  have HS : Hid ((w.alloc (.cells #[nv, mv, pv] 34)).heap.size = w.heap.size + 1) := by show _ = _; simp
  clear hb1
  obtain ⟨ao, c, rfl, _⟩ := hM
  obtain ⟨bo, d, rfl, _⟩ := hP
  go_enter Tryz.func61, Tryz.ntmps61
  go_wp2
  obtain ⟨W1, hW⟩ : ∃ W1, w.alloc (.cells #[nv, .slice ao ms.length c, .slice bo ps.length d] 34) = W1 := ⟨_, rfl⟩
  rw [hW] at HM HP HX HB HS ⊢
  clear hW
  obtain ⟨n, en⟩ : ∃ n, ms.length = n := ⟨_, rfl⟩
  have EN := hide en
  obtain ⟨q, eq⟩ : ∃ q, ps.length = q := ⟨_, rfl⟩
  have EQ := hide eq
  rw [en] at HM
  rw [eq] at HP
  rw [en, eq] at HX ⊢
  rw [en] at hml
  rw [eq] at hpl
  clear en eq
  go_loopw [3, 14] (BodR w W1 ms) (fun _ iv _ => n - (intOf iv).toNat)
  case atStart => exact ⟨0, by omega, rfl, by
    have := ownsRow_empty W1 (w.heap.size + 1) 3 (by rw [HS.out]; exact Nat.le_refl _)
    rw [HS.out] at this
    exact this, (Below.refl _ _).alloc (Nat.le_refl _) _⟩
  case round =>
    obtain ⟨i, hi, rfl, HO, HB2⟩ := hrel
    obtain ⟨c0, c1, c2, _⟩ := HX.out.stays HB2.out
    rw [EN.out] at hi
    by_cases hlt : i < n
    · have hlt' : (i : Int) < (n : Int) := by omega
      have hi0 : (0 : Int) ≤ (i : Int) := by omega
      have hix : i < ms.length := by rw [EN.out]; exact hlt
      have HEL := hide (hel _ (List.getElem_mem hix))
      have HNX := hide (bodA_next hix)
      obtain ⟨ao', cc, e5, hc⟩ := HM.out
      injection e5 with e6 e7 e8
      subst e6
      obtain ⟨a, vv, qv, ev, rfl, hab, hcell⟩ := hc i hix
      have HE := hide hcell.ents
      have hcell2 := hcell.stays HB2.out (by rw [block_add]; exact hab)
      obtain ⟨p, hpa⟩ : ∃ p, a.add (i * 4) = p := ⟨_, rfl⟩
      rw [hpa] at hcell2
      obtain ⟨x, ex⟩ : ∃ x, ms[i] = x := ⟨_, rfl⟩
      rw [ex] at HEL HNX hcell2 HE
      obtain ⟨d0, d1, d2, d3, hv1, hv2, hv3⟩ := hcell2
      obtain ⟨vo, vc, rfl, _⟩ := hv1
      obtain ⟨qo, qc, rfl, _⟩ := hv2
      obtain ⟨eo, ec, rfl, _⟩ := hv3
      clear hcell
      clear ex hc e7 e8
      obtain ⟨m, em⟩ : ∃ m, x.ents.length = m := ⟨_, rfl⟩
      have EM := hide em
      rw [em] at d3 HE
      have hm : m ≤ 1048576 := by have := HEL.out; omega
      have hb3 : Below wr.heap.size wr (wr.alloc (.cells #[.string x.name, .slice vo x.vars.length vc, .slice qo x.queues.length qc, .slice eo m ec] 45)) := (Below.refl _ _).alloc (Nat.le_refl _) _
      have HO3 := hide (HO.out.alloc (.cells #[.string x.name, .slice vo x.vars.length vc, .slice qo x.queues.length qc, .slice eo m ec] 45))
      have HB3 := hide (HB2.out.trans (hb3.mono HB2.out.size))
      clear em hb3
      go_wp2
      obtain ⟨W3, hW3⟩ : ∃ W3, wr.alloc (.cells #[.string x.name, .slice vo x.vars.length vc, .slice qo x.queues.length qc, .slice eo m ec] 45) = W3 := ⟨_, rfl⟩
      rw [hW3] at HO3 HB3 ⊢
      have HZ3 : Hid (W3.heap.size = wr.heap.size + 1) := by show _ = _; rw [← hW3]; simp
      clear hW3
      go_loopw [3, 21] (BodI w W1 (bodA ms i) x.ents) (fun _ iv _ => m - (intOf iv).toNat)
      case atStart => exact ⟨0, bodA ms i, by omega, rfl, by simp, HO3.out, HB3.out⟩
      case round =>
        obtain ⟨j, l', hj, rfl, el, HO4, HB4⟩ := hrel
        rw [EM.out] at hj
        have EL := hide el
        clear el
        by_cases hlt2 : j < m
        · have hlt2' : (j : Int) < (m : Int) := by omega
          have hj0 : (0 : Int) ≤ (j : Int) := by omega
          have hjx : j < x.ents.length := by rw [EM.out]; exact hlt2
          obtain ⟨eo', ec', e5, hec⟩ := HE.out.stays HB4.out
          injection e5 with e6 e7 e8
          subst e6
          obtain ⟨b, rfl, hbb, hy⟩ := hec j hjx
          obtain ⟨r, hra⟩ : ∃ r, b.add (j * 3) = r := ⟨_, rfl⟩
          rw [hra] at hy
          have EY : Hid (l' ++ [x.ents[j].body] = bodA ms i ++ (x.ents.take (j + 1)).map En.body) := by
            show _ = _
            rw [EL.out, List.take_add_one, List.getElem?_eq_getElem hjx, List.map_append, ← List.append_assoc]
            rfl
          obtain ⟨y, ey⟩ : ∃ y, x.ents[j] = y := ⟨_, rfl⟩
          rw [ey] at hy EY
          have HLN : Hid (l'.length + 1 ≤ 1048576) := by
            show _ ≤ _
            have h1 : (l' ++ [y.body]).length ≤ (bodA ms (i + 1)).length := by rw [EY.out, HNX.out]; simp; omega
            have h2 := bodA_le ms ps (i + 1)
            simp at h1
            omega
          obtain ⟨y0, y1, y2⟩ := hy
          clear hec ey e7 e8
          have HOA := hide (HO4.out.alloc (.cells #[.string y.name, .string y.param, .int .i64 y.body] 48))
          have HBA : Hid (Below W1.heap.size W1 (wr.alloc (.cells #[.string y.name, .string y.param, .int .i64 y.body] 48))) := HB4.out.alloc HB4.out.size _
          have hwz : w.heap.size + 1 ≤ (wr.alloc (.cells #[.string y.name, .string y.param, .int .i64 y.body] 48)).heap.size := by rw [← HS.out]; exact HBA.out.size
          go_wp2_with (at_builtin; refine wpList_app1g (g := wr.heap.size + 1) (by simp) rfl (.tmp 25) (.tmp 28) 67 rfl (w.heap.size + 1) 3 (.int .i64 0) 8 Tryz.underlying67 Tryz.infoInt rfl _ l'.length _ _ rfl HOA.out rfl rfl (by have := HLN.out; unfold maxLen; omega) (by have := HLN.out; omega) hwz ?_)
          intro v' w4 hown4 hb4
          have R : BodI w W1 (bodA ms i) x.ents v' (.int .i64 ((j : Int) + 1)) w4 := ⟨j + 1, l' ++ [y.body], by rw [EM.out]; omega, rfl, EY.out, hide (by simpa using hown4), HBA.out.trans (by rw [HS.out]; exact hb4)⟩
          clear hown4 hb4
          go_wp2
          go_roundw
          case rel => exact R
          case measure => simp [intOf]; omega
        · have hlt2' : ¬ (j : Int) < (m : Int) := by omega
          have EL2 : Hid (l' = bodA ms (i + 1)) := by
            show _ = _
            rw [EL.out, HNX.out, List.take_of_length_le (by rw [EM.out]; omega)]
          go_wp2
          go_roundw
          case rel => exact ⟨i + 1, by rw [EN.out]; omega, by go_num, by rw [← EL2.out]; exact HO4.out, HB4.out⟩
          case measure => simp [intOf]; omega
    · have hlt' : ¬ (i : Int) < (n : Int) := by omega
      have e0 : bodA ms i = bodC ms ps 0 := by
        have : i = ms.length := by rw [EN.out]; omega
        rw [this, bodC]; simp
      have HO1 := HO
      rw [e0] at HO1
      clear e0
      go_wp2
      go_loopw [3, 35] (BodP w W1 ms ps) (fun _ iv _ => q - (intOf iv).toNat)
      case atStart => exact ⟨0, by omega, rfl, HO1.out, HB2.out⟩
      case round =>
        clear c0 c1 c2
        obtain ⟨i, hi, rfl, HO3, HB3⟩ := hrel
        rw [EQ.out] at hi
        by_cases hlt : i < q
        · have hlt' : (i : Int) < (q : Int) := by omega
          have hi0 : (0 : Int) ≤ (i : Int) := by omega
          have hix : i < ps.length := by rw [EQ.out]; exact hlt
          have HNX := hide (bodC_next (ms := ms) hix)
          obtain ⟨bo', cc, e5, hc⟩ := HP.out.stays HB3.out
          injection e5 with e6 e7 e8
          subst e6
          obtain ⟨a, uv, vv, rfl, hab, hcell⟩ := hc i hix
          obtain ⟨p, hpa⟩ : ∃ p, a.add (i * 4) = p := ⟨_, rfl⟩
          rw [hpa] at hcell
          obtain ⟨y, ey⟩ : ∃ y, ps[i] = y := ⟨_, rfl⟩
          rw [ey] at hcell HNX
          obtain ⟨d0, d1, d2, d3, hv1, hv2⟩ := hcell
          obtain ⟨uo, uc, rfl, _⟩ := hv1
          obtain ⟨vo, vc, rfl, _⟩ := hv2
          clear hc e7 e8 ey
          have HLN : Hid ((bodC ms ps i).length + 1 ≤ 1048576) := by
            show _ ≤ _
            have h2 : (bodC ms ps (i + 1)).length ≤ (bodiesL ms ps).length := by
              rw [← bodC_all]; simp [bodC]; omega
            rw [HNX.out] at h2
            simp at h2
            omega
          have HOA := hide (HO3.out.alloc (.cells #[.string y.name, .slice uo y.uses.length uc, .slice vo y.vars.length vc, .int .i64 y.body] 51))
          have HBA : Hid (Below W1.heap.size W1 (wr.alloc (.cells #[.string y.name, .slice uo y.uses.length uc, .slice vo y.vars.length vc, .int .i64 y.body] 51))) := HB3.out.alloc HB3.out.size _
          have hwz : w.heap.size + 1 ≤ (wr.alloc (.cells #[.string y.name, .slice uo y.uses.length uc, .slice vo y.vars.length vc, .int .i64 y.body] 51)).heap.size := by rw [← HS.out]; exact HBA.out.size
          go_wp2_with (at_builtin; refine wpList_app1g (g := wr.heap.size + 1) (by simp) rfl (.tmp 39) (.tmp 42) 67 rfl (w.heap.size + 1) 3 (.int .i64 0) 8 Tryz.underlying67 Tryz.infoInt rfl _ (bodC ms ps i).length _ _ rfl HOA.out rfl rfl (by have := HLN.out; unfold maxLen; omega) (by have := HLN.out; omega) hwz ?_)
          intro v' w4 hown4 hb4
          have R : BodP w W1 ms ps v' (.int .i64 ((i : Int) + 1)) w4 := ⟨i + 1, by rw [EQ.out]; omega, rfl, hide (by rw [HNX.out]; simpa using hown4), HBA.out.trans (by rw [HS.out]; exact hb4)⟩
          clear hown4 hb4
          go_wp2
          go_roundw
          case rel => exact R
          case measure => simp [intOf]; omega
        · have hlt' : ¬ (i : Int) < (q : Int) := by omega
          have ei : i = ps.length := by rw [EQ.out]; omega
          have HF : Hid (bodC ms ps i = bodiesL ms ps) := by show _ = _; rw [ei, bodC_all]
          rw [HF.out] at HO3
          clear ei
          go_wp2
          go_ret
          exact ⟨_, rfl, HO3.out, HB.out.trans (HB3.out.mono HB.out.size)⟩
end Go.Proofs.YtdfahpachbhglaaGreatDoor
