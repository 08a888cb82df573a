/-
  The law's marks on what was handed in: numbers are turned to numbers, texts to texts, in the blocks of the argument alone.
-/
import Derived.Test.YtgeomgghecmkbaaRowQ
namespace Go.Proofs.Ytgeomgghecmkbaa
open Go.RowKit

/-- A value of the same kind. -/
def AlikeV (u u' : Value) : Prop := u = u' ∨ (∃ k a b, u = .int k a ∧ u' = .int k b) ∨ (∃ s t, u = .string s ∧ u' = .string t) ∨ ∃ s t, u = .bool s ∧ u' = .bool t
theorem AlikeV.refl (u : Value) : AlikeV u u := .inl rfl
theorem AlikeV.trans {a b c : Value} (h : AlikeV a b) (k : AlikeV b c) : AlikeV a c := by
  rcases h with rfl | ⟨q, x, y, rfl, rfl⟩ | ⟨s, t, rfl, rfl⟩ | ⟨s, t, rfl, rfl⟩
  · exact k
  · rcases k with rfl | ⟨q', x', y', e, rfl⟩ | ⟨s, t, e, rfl⟩ | ⟨s, t, e, rfl⟩
    · exact .inr (.inl ⟨q, x, y, rfl, rfl⟩)
    · injection e with e1 e2
      subst e1
      exact .inr (.inl ⟨q, x, y', rfl, rfl⟩)
    · cases e
    · cases e
  · rcases k with rfl | ⟨q', x', y', e, rfl⟩ | ⟨s', t', e, rfl⟩ | ⟨s', t', e, rfl⟩
    · exact .inr (.inr (.inl ⟨s, t, rfl, rfl⟩))
    · cases e
    · exact .inr (.inr (.inl ⟨s, t', rfl, rfl⟩))
    · cases e
  · rcases k with rfl | ⟨q', x', y', e, rfl⟩ | ⟨s', t', e, rfl⟩ | ⟨s', t', e, rfl⟩
    · exact .inr (.inr (.inr ⟨s, t, rfl, rfl⟩))
    · cases e
    · cases e
    · exact .inr (.inr (.inr ⟨s, t', rfl, rfl⟩))
/-- What marks do to the memory of an argument, which lies in the blocks B .. T. -/
structure Turn (B T : Nat) (w w' : World) : Prop where
  bel : Below B w w'
  out : ∀ b, T ≤ b → b < w.heap.size → w'.heap[b]? = w.heap[b]?
  cell : ∀ (a : Addr) (u : Value), w.cell? a = some u → ∃ u', w'.cell? a = some u' ∧ AlikeV u u'
  froz : ∀ a : Addr, a.block < w.heap.size → w'.frozen? a = w.frozen? a
theorem Turn.refl (B T : Nat) (w : World) : Turn B T w w := ⟨Below.refl _ _, fun _ _ _ => rfl, fun _ u h => ⟨u, h, AlikeV.refl u⟩, fun _ _ => rfl⟩
theorem Turn.trans {B T : Nat} {a b c : World} (h : Turn B T a b) (k : Turn B T b c) : Turn B T a c := by
  have hs := h.bel.size
  refine ⟨h.bel.trans k.bel, fun i h1 h2 => (k.out i h1 (by omega)).trans (h.out i h1 h2), fun p u hu => ?_, fun p hp => (k.froz p (by omega)).trans (h.froz p hp)⟩
  obtain ⟨u1, h1, a1⟩ := h.cell p u hu
  obtain ⟨u2, h2, a2⟩ := k.cell p u1 h1
  exact ⟨u2, h2, a1.trans a2⟩
theorem Turn.below {B T : Nat} {w w' : World} (h : Below w.heap.size w w') (hB : B ≤ w.heap.size) : Turn B T w w' :=
  ⟨h.mono hB, fun b _ hb => h.block b hb, fun p u hu => ⟨u, (h.cell (World.block_lt_of_cell? w p hu)).trans hu, AlikeV.refl u⟩, fun _ hp => h.frozen hp⟩
theorem Turn.set {B T : Nat} {w : World} {p : Addr} {u u' : Value} (hu : w.cell? p = some u) (ha : AlikeV u u') (h1 : B ≤ p.block) (h2 : p.block < T) : Turn B T w (w.setCell p u') := by
  refine ⟨(Below.refl B w).setCell h1 u', fun b hb _ => Below.heap_setCell w p u' b (by omega), fun q v hv => ?_, fun q _ => World.frozen?_setCell _ _ _ _⟩
  by_cases e : p = q
  · subst e
    rw [hu] at hv
    injection hv with hv
    subst hv
    exact ⟨u', World.cell?_setCell_same _ _ _ hu, ha⟩
  · exact ⟨v, (World.cell?_setCell_other _ _ _ _ e).trans hv, AlikeV.refl v⟩
/-- A cell's shape lasts. -/
class Stab (F : World → Value → Prop) : Prop where
  turn : ∀ {B T : Nat} {w w' : World} {u u' : Value}, Turn B T w w' → AlikeV u u' → F w u → F w' u'
def IsN (_ : World) (u : Value) : Prop := ∃ i, u = .int .i64 i
def IsS (_ : World) (u : Value) : Prop := ∃ s, u = .string s
instance : Stab IsN := ⟨fun _ ha ⟨i, h⟩ => by
  subst h
  rcases ha with rfl | ⟨k, a, b, e, rfl⟩ | ⟨s, t, e, _⟩ | ⟨s, t, e, _⟩
  · exact ⟨i, rfl⟩
  · injection e with e1 _
    subst e1
    exact ⟨b, rfl⟩
  · cases e
  · cases e⟩
def IsB (_ : World) (u : Value) : Prop := ∃ s, u = .bool s
instance : Stab IsB := ⟨fun _ ha ⟨i, h⟩ => by
  subst h
  rcases ha with rfl | ⟨k, a, b, e, rfl⟩ | ⟨s, t, e, rfl⟩ | ⟨s, t, e, rfl⟩
  · exact ⟨i, rfl⟩
  · cases e
  · cases e
  · exact ⟨t, rfl⟩⟩
instance : Stab IsS := ⟨fun _ ha ⟨i, h⟩ => by
  subst h
  rcases ha with rfl | ⟨k, a, b, e, rfl⟩ | ⟨s, t, e, rfl⟩ | ⟨s, t, e, rfl⟩
  · exact ⟨i, rfl⟩
  · cases e
  · exact ⟨t, rfl⟩
  · cases e⟩
/-- A row of structs of s cells in the blocks B .. T, each cell of its shape. -/
def ShR (B T s : Nat) (F : Nat → World → Value → Prop) (n : Nat) (w : World) (v : Value) : Prop :=
  ∃ ao c, v = .slice ao n c ∧ ∀ j, j < n → ∃ g, ao = some ⟨g, 0, none⟩ ∧ B ≤ g ∧ g < T ∧ g < w.heap.size ∧ ∀ i, i < s → (∃ u, w.cell? ⟨g, j * s + i, none⟩ = some u ∧ F i w u) ∧ w.frozen? ⟨g, j * s + i, none⟩ = false
theorem ShR.turn {B T B' T' s n : Nat} {F : Nat → World → Value → Prop} {w w' : World} {v : Value} (h : ShR B T s F n w v) (ht : Turn B' T' w w') (hF : ∀ i, i < s → Stab (F i)) : ShR B T s F n w' v := by
  obtain ⟨ao, c, rfl, hc⟩ := h
  refine ⟨ao, c, rfl, fun j hj => ?_⟩
  obtain ⟨g, rfl, h1, h2, h3, h4⟩ := hc j hj
  refine ⟨g, rfl, h1, h2, Nat.lt_of_lt_of_le h3 ht.bel.size, fun i hi => ?_⟩
  obtain ⟨⟨u, hu, hf⟩, hz⟩ := h4 i hi
  obtain ⟨u', hu', ha⟩ := ht.cell _ u hu
  exact ⟨⟨u', hu', (hF i hi).turn ht ha hf⟩, (ht.froz _ h3).trans hz⟩
/-- A cell that is a row of such structs. -/
def IsR (B T s : Nat) (F : Nat → World → Value → Prop) (w : World) (u : Value) : Prop := ∃ n, n ≤ 1048576 ∧ ShR B T s F n w u
theorem IsR.stab {B T s : Nat} {F : Nat → World → Value → Prop} (hF : ∀ i, i < s → Stab (F i)) : Stab (IsR B T s F) := ⟨fun ht ha ⟨n, hn, h⟩ => by
  have h' := h
  obtain ⟨ao, c, rfl, _⟩ := h'
  rcases ha with rfl | ⟨k, a, b, e, rfl⟩ | ⟨s, t, e, rfl⟩ | ⟨s, t, e, rfl⟩
  · exact ⟨n, hn, h.turn ht hF⟩
  · cases e
  · cases e
  · cases e⟩
theorem ShR.look {B T s n g c j i o : Nat} {F : Nat → World → Value → Prop} {w : World} (h : ShR B T s F n w (.slice (some ⟨g, 0, none⟩) n c)) (hj : j < n) (hi : i < s) (ho : o = j * s + i) :
    (∃ u, w.cell? ⟨g, o, none⟩ = some u ∧ F i w u) ∧ w.frozen? ⟨g, o, none⟩ = false := by
  subst ho
  obtain ⟨ao, c', e, hc⟩ := h
  injection e with e1 _ _
  obtain ⟨g', e2, _, _, _, h4⟩ := hc j hj
  rw [← e1] at e2
  injection e2 with e2
  injection e2 with e2 _ _
  subst e2
  exact h4 i hi
theorem ShR.blk {B T s n g c j : Nat} {F : Nat → World → Value → Prop} {w : World} (h : ShR B T s F n w (.slice (some ⟨g, 0, none⟩) n c)) (hj : j < n) : B ≤ g ∧ g < T := by
  obtain ⟨ao, c', e, hc⟩ := h
  injection e with e1 _ _
  obtain ⟨g', e2, h1, h2, _⟩ := hc j hj
  rw [← e1] at e2
  injection e2 with e2
  injection e2 with e2 _ _
  subst e2
  exact ⟨h1, h2⟩
theorem ShR.num {B T s n g c j i o : Nat} {F : Nat → World → Value → Prop} {w : World} (h : ShR B T s F n w (.slice (some ⟨g, 0, none⟩) n c)) (hj : j < n) (hi : i < s) (ho : o = j * s + i) (hF : F i = IsN) (k : Int) : Turn B T w (w.setCell ⟨g, o, none⟩ (.int .i64 k)) := by
  obtain ⟨⟨u, hu, hf⟩, _⟩ := h.look hj hi ho
  rw [hF] at hf
  obtain ⟨a, rfl⟩ := hf
  exact Turn.set hu (.inr (.inl ⟨_, _, _, rfl, rfl⟩)) (h.blk hj).1 (h.blk hj).2
theorem ShR.txt {B T s n g c j i o : Nat} {F : Nat → World → Value → Prop} {w : World} (h : ShR B T s F n w (.slice (some ⟨g, 0, none⟩) n c)) (hj : j < n) (hi : i < s) (ho : o = j * s + i) (hF : F i = IsS) (t : ByteArray) : Turn B T w (w.setCell ⟨g, o, none⟩ (.string t)) := by
  obtain ⟨⟨u, hu, hf⟩, _⟩ := h.look hj hi ho
  rw [hF] at hf
  obtain ⟨a, rfl⟩ := hf
  exact Turn.set hu (.inr (.inr (.inl ⟨_, _, rfl, rfl⟩))) (h.blk hj).1 (h.blk hj).2
theorem ShR.bol {B T s n g c j i o : Nat} {F : Nat → World → Value → Prop} {w : World} (h : ShR B T s F n w (.slice (some ⟨g, 0, none⟩) n c)) (hj : j < n) (hi : i < s) (ho : o = j * s + i) (hF : F i = IsB) (t : Bool) : Turn B T w (w.setCell ⟨g, o, none⟩ (.bool t)) := by
  obtain ⟨⟨u, hu, hf⟩, _⟩ := h.look hj hi ho
  rw [hF] at hf
  obtain ⟨a, rfl⟩ := hf
  exact Turn.set hu (.inr (.inr (.inr ⟨_, _, rfl, rfl⟩))) (h.blk hj).1 (h.blk hj).2
/-- The shapes. -/
def fInt (_ : Nat) : World → Value → Prop := IsN
def fStr (_ : Nat) : World → Value → Prop := IsS
def fEnt (i : Nat) : World → Value → Prop := if i = 2 then IsN else IsS
def fNod (B T : Nat) (i : Nat) : World → Value → Prop := if i < 2 then IsN else if i < 5 then IsS else IsR B T 1 fInt
def fMon (B T : Nat) (i : Nat) : World → Value → Prop := if i = 0 then IsS else if i < 3 then IsR B T 1 fStr else IsR B T 3 fEnt
def fPro (B T : Nat) (i : Nat) : World → Value → Prop := if i = 0 then IsS else if i < 3 then IsR B T 1 fStr else IsN
theorem fInt_s (i : Nat) : Stab (fInt i) := inferInstanceAs (Stab IsN)
theorem fStr_s (i : Nat) : Stab (fStr i) := inferInstanceAs (Stab IsS)
theorem fEnt_s (i : Nat) : Stab (fEnt i) := by unfold fEnt; split <;> infer_instance
theorem fNod_s (B T i : Nat) : Stab (fNod B T i) := by
  unfold fNod
  split
  · infer_instance
  · split
    · infer_instance
    · exact IsR.stab fun i _ => fInt_s i
theorem fMon_s (B T i : Nat) : Stab (fMon B T i) := by
  unfold fMon
  split
  · infer_instance
  · split
    · exact IsR.stab fun i _ => fStr_s i
    · exact IsR.stab fun i _ => fEnt_s i
theorem fPro_s (B T i : Nat) : Stab (fPro B T i) := by
  unfold fPro
  split
  · infer_instance
  · split
    · exact IsR.stab fun i _ => fStr_s i
    · infer_instance
/-- While a row is marked. -/
def TuR (B T s M : Nat) (F : Nat → World → Value → Prop) (n : Nat) (v : Value) (k0 : Int) (w : World) (iv kv : Value) (wr : World) : Prop :=
  ∃ (j : Nat) (k : Int), j ≤ n ∧ iv = .int .i64 j ∧ kv = .int .i64 k ∧ k0 ≤ k ∧ k ≤ k0 + (j : Int) * (M : Int) ∧ Hid (Turn B T w wr) ∧ Hid (ShR B T s F n wr v)
theorem CellsIn.shI {base T : Nat} {w : World} {v : Value} {xs : List Int} (h : IntsIn base w v xs) (hT : w.heap.size ≤ T) : ShR base T 1 fInt xs.length w v := by
  obtain ⟨ao, c, rfl, hr, hc⟩ := h
  refine ⟨ao, c, by rw [List.length_map], fun j hj => ?_⟩
  obtain ⟨a, rfl, h1, h2, h3⟩ := hc j (I64 xs[j]) (by simp [hj])
  obtain ⟨e, hz⟩ := hr.2 (by rw [List.length_map]; omega) a rfl
  refine ⟨a.block, by rw [← e], h1, by omega, h2, fun i hi => ?_⟩
  have ei : i = 0 := by omega
  subst ei
  rw [e, add_zero_at] at h3
  exact ⟨⟨_, by rw [Nat.mul_one, Nat.add_zero]; exact h3, _, rfl⟩, hz _⟩
theorem CellsIn.shT {base T : Nat} {w : World} {v : Value} {xs : List ByteArray} (h : StrsIn base w v xs) (hT : w.heap.size ≤ T) : ShR base T 1 fStr xs.length w v := by
  obtain ⟨ao, c, rfl, hr, hc⟩ := h
  refine ⟨ao, c, by rw [List.length_map], fun j hj => ?_⟩
  obtain ⟨a, rfl, h1, h2, h3⟩ := hc j (.string xs[j]) (by simp [hj])
  obtain ⟨e, hz⟩ := hr.2 (by rw [List.length_map]; omega) a rfl
  refine ⟨a.block, by rw [← e], h1, by omega, h2, fun i hi => ?_⟩
  have ei : i = 0 := by omega
  subst ei
  rw [e, add_zero_at] at h3
  exact ⟨⟨_, by rw [Nat.mul_one, Nat.add_zero]; exact h3, _, rfl⟩, hz _⟩
theorem ObjsIn.sh {α : Type} {R : Nat → World → List Value → α → Prop} {s base T : Nat} {w : World} {v : Value} {xs : List α} {F : Nat → World → Value → Prop} (h : ObjsIn R s base w v xs) (hT : w.heap.size ≤ T)
    (hF : ∀ (x : α), x ∈ xs → ∀ cs, R base w cs x → ∀ i u, cs[i]? = some u → F i w u) : ShR base T s F xs.length w v := by
  obtain ⟨css, ⟨ao, c, rfl, hr, hc⟩, hl, hR⟩ := h
  refine ⟨ao, c, by rw [hl], fun j hj => ?_⟩
  have hj2 : j < css.length := by omega
  obtain ⟨hs, a, rfl, h1, h2, h3⟩ := hc j css[j] (List.getElem?_eq_getElem hj2)
  obtain ⟨e, hz⟩ := hr.2 (by omega) a rfl
  refine ⟨a.block, by rw [← e], h1, by omega, h2, fun i hi => ⟨?_, hz _⟩⟩
  have hi2 : i < css[j].length := by rw [hs]; exact hi
  have h4 := h3 i css[j][i] (List.getElem?_eq_getElem hi2)
  rw [e, add_zero_at] at h4
  exact ⟨_, h4, hF xs[j] (List.getElem_mem hj) css[j] (hR j css[j] xs[j] (List.getElem?_eq_getElem hj2) (List.getElem?_eq_getElem hj)) i _ (List.getElem?_eq_getElem hi2)⟩
theorem EnsIn.sh {base T : Nat} {w : World} {v : Value} {xs : List En} (h : EnsIn base w v xs) (hT : w.heap.size ≤ T) : ShR base T 3 fEnt xs.length w v :=
  ObjsIn.sh h hT fun x _ cs e i u hu => by
    have e : cs = _ := e
    subst e
    match i, hu with
    | 0, hu => simp at hu; subst hu; exact ⟨_, rfl⟩
    | 1, hu => simp at hu; subst hu; exact ⟨_, rfl⟩
    | 2, hu => simp at hu; subst hu; exact ⟨_, rfl⟩
    | i + 3, hu => simp at hu
theorem NdsIn.sh {base T : Nat} {w : World} {v : Value} {xs : List Nd} (h : NdsIn base w v xs) (hT : w.heap.size ≤ T) (hk : ∀ x ∈ xs, x.kids.length ≤ 1048576) : ShR base T 6 (fNod base T) xs.length w v :=
  ObjsIn.sh h hT fun x hx cs hc i u hu => by
    obtain ⟨kv, e, hK⟩ := hc
    subst e
    match i, hu with
    | 0, hu => simp at hu; subst hu; exact ⟨_, rfl⟩
    | 1, hu => simp at hu; subst hu; exact ⟨_, rfl⟩
    | 2, hu => simp at hu; subst hu; exact ⟨_, rfl⟩
    | 3, hu => simp at hu; subst hu; exact ⟨_, rfl⟩
    | 4, hu => simp at hu; subst hu; exact ⟨_, rfl⟩
    | 5, hu => simp at hu; subst hu; exact ⟨_, hk x hx, CellsIn.shI hK hT⟩
    | i + 6, hu => simp at hu
theorem MosIn.sh {base T : Nat} {w : World} {v : Value} {xs : List Mo} (h : MosIn base w v xs) (hT : w.heap.size ≤ T) (hk : ∀ x ∈ xs, x.vars.length ≤ 1048576 ∧ x.queues.length ≤ 1048576 ∧ x.ents.length ≤ 1048576) : ShR base T 4 (fMon base T) xs.length w v :=
  ObjsIn.sh h hT fun x hx cs hc i u hu => by
    obtain ⟨vv, qv, ev, e, h1, h2, h3⟩ := hc
    subst e
    match i, hu with
    | 0, hu => simp at hu; subst hu; exact ⟨_, rfl⟩
    | 1, hu => simp at hu; subst hu; exact ⟨_, (hk x hx).1, CellsIn.shT h1 hT⟩
    | 2, hu => simp at hu; subst hu; exact ⟨_, (hk x hx).2.1, CellsIn.shT h2 hT⟩
    | 3, hu => simp at hu; subst hu; exact ⟨_, (hk x hx).2.2, EnsIn.sh h3 hT⟩
    | i + 4, hu => simp at hu
theorem PrsIn.sh {base T : Nat} {w : World} {v : Value} {xs : List Pr} (h : PrsIn base w v xs) (hT : w.heap.size ≤ T) (hk : ∀ x ∈ xs, x.uses.length ≤ 1048576 ∧ x.vars.length ≤ 1048576) : ShR base T 4 (fPro base T) xs.length w v :=
  ObjsIn.sh h hT fun x hx cs hc i u hu => by
    obtain ⟨uv, vv, e, h1, h2⟩ := hc
    subst e
    match i, hu with
    | 0, hu => simp at hu; subst hu; exact ⟨_, rfl⟩
    | 1, hu => simp at hu; subst hu; exact ⟨_, (hk x hx).1, CellsIn.shT h1 hT⟩
    | 2, hu => simp at hu; subst hu; exact ⟨_, (hk x hx).2, CellsIn.shT h2 hT⟩
    | 3, hu => simp at hu; subst hu; exact ⟨_, rfl⟩
    | i + 4, hu => simp at hu
end Go.Proofs.Ytgeomgghecmkbaa
