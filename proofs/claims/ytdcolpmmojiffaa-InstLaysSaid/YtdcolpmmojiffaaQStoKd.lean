/-
  StoKd: Slices of things of one cell each (ints, bytes, numbers of 64 bits, bools), whatever their kind: what they lead to, owned by the call, appended (a slice, or so many noughts), copied into. Conditions as each lemma says; nothing of the program but its types.
-/
import Derived.Test.YtdcolpmmojiffaaQStoDoes
import Derived.Laws.CopyOwn
import Derived.Lib.AppendZeros
import Derived.Maps.AppendAt
namespace Go.Proofs.Ytdcolpmmojiffaa.Sto
open Go.RowKit Leb Typ

theorem zeros_one (z : Value) (m : Nat) (hz : z.cells = #[z]) : (Builtin.zeroCells z.cells m).toList = List.replicate m z := by
  rw [hz]
  refine List.ext_getElem (by simp [Builtin.zeroCells]) fun j h1 h2 => ?_
  simp [Builtin.zeroCells, Nat.mod_one]

section
variable {P : Program} (w : World)
set_option linter.unusedSimpArgs false in
theorem run_append_own_zeros (base : Nat) (t tn ty e : TypeId) (i : TypeInfo) (z : Value) (bytes : Nat) (k kn : IntKind) (ht : P.underlying t = some (.slice e)) (htn : P.underlying tn = some (.int kn)) (hi : P.info? e = some i) (hz : i.zero = some z)
    (hsize : i.size = 1) (hby : i.bytes = bytes) (hzc : z.cells = #[z]) (hz1 : z.oneCell' = true) (hb8 : bytes ≤ 8)
    (v : Value) (n : Nat) (xs : List Value) (hown : w.ownsRow base e 1 v n xs) (m : Nat)
    (h63 : n + m ≤ maxLen) (hbytes : (n + m) * bytes ≤ 140737488355328) (hbase : base ≤ w.heap.size) :
    ∃ v' w', (Builtin.append_ #[t, tn] ty #[v, .int k m]).run P w = .ok v' w' ∧ w'.ownsRow base e 1 v' (n + m) (xs ++ List.replicate m z) ∧ w.grownBy w' v.ownBlock := by
  subst hby
  have hsmall : n + m ≤ 9223372036854775807 := by simp only [maxLen] at h63; omega
  have hm48 : m * i.bytes ≤ 140737488355328 := Nat.le_trans (Nat.mul_le_mul_right _ (by omega)) hbytes
  have hw : IntKind.i64.wrap (m : Int) = m := by rw [IntKind.wrap_i64]; omega
  have h48i : ¬ (281474976710656 < (m : Int) * (i.bytes : Int)) := by
    rw [← Int.natCast_mul]
    omega
  have hneg : ¬ ((m : Int) < 0) := by omega
  have hzl := zeros_one z m hzc
  have hzs : (Builtin.zeroCells z.cells m).size = m := by rw [size_zeroCells, hzc]; simp
  have hlen : (xs ++ List.replicate m z).length = (n + m) * 1 := by rw [List.length_append, hown.1, List.length_replicate]; omega
  have grown : ∀ (old : Nat), old < n + m → ∀ (row : Option Nat),
      (w.drew.alloc (.cells (xs.toArray ++ Builtin.zeroCells z.cells m ++ Builtin.zeroCells z.cells (grownCap w (n + m) old e - (n + m))) e)).ownsRow base e 1
        (.slice (some ⟨w.heap.size, 0, none⟩) (n + m) (grownCap w (n + m) old e)) (n + m) (xs ++ List.replicate m z) ∧
      w.grownBy (w.drew.alloc (.cells (xs.toArray ++ Builtin.zeroCells z.cells m ++ Builtin.zeroCells z.cells (grownCap w (n + m) old e - (n + m))) e)) row := by
    intro old ho row
    have hge := grownCap_ge w (n + m) old e
    have hcm : grownCap w (n + m) old e ≤ maxLen := grownCap_le_maxLen w (n + m) old e h63
    refine ⟨⟨hlen, .inr ⟨w.heap.size, _, _, rfl, hbase, heap_alloc_new w.drew _, hge, hcm, ?_, ?_⟩⟩, ⟨rfl, rfl, rfl, by simp, fun k hk _ => _root_.Go.heap_alloc_old w.drew _ hk⟩⟩
    · simp only [Array.size_append, List.size_toArray, size_zeroCells, hown.1, hzc]
      simp
      omega
    · simp only [Array.toList_append, List.append_assoc, hzl]
      rw [← List.append_assoc, ← hlen]
      exact List.take_left
  rcases hown.2 with ⟨rfl, rfl⟩ | ⟨g, cap, cur, rfl, hbg, hg, hnc, hcm, hcs, htake⟩
  · have hx : xs = [] := List.eq_nil_of_length_eq_zero (by simpa using hown.1)
    subst hx
    by_cases hm : m = 0
    · subst hm
      refine ⟨.slice none 0 0, w, ?_, World.ownsRow_nil w base e 1, ⟨rfl, rfl, rfl, Nat.le_refl _, fun _ _ _ => rfl⟩⟩
      simp [Builtin.append_, run_underlying ht, run_underlying htn, sizeOf, typeInfo, hi, asInt, asIntOf, IntKind.wrap_i64]
    · have hr := Lib.run_append_nil_zeros (P := P) w t tn ty e i z k kn ht htn hi hz m (by omega) (by omega) (by omega) (by omega)
      have hgr := grown 0 (by omega) (Value.ownBlock (.slice none 0 0))
      simp only [Nat.zero_add, List.nil_append, Array.empty_append] at hgr ⊢
      exact ⟨_, _, hr, hgr.1, hgr.2⟩
  · by_cases hm : m = 0
    · subst hm
      refine ⟨.slice (some ⟨g, 0, none⟩) n cap, w, ?_, by simpa using hown, ⟨rfl, rfl, rfl, Nat.le_refl _, fun _ _ _ => rfl⟩⟩
      simp [Builtin.append_, run_underlying ht, run_underlying htn, sizeOf, typeInfo, zeroValue, hi, hz, hsize, asInt, asIntOf, IntKind.wrap_i64, hnc, storeCells]
    by_cases hroom : n + m ≤ cap
    · have hst := run_storeCells_at P g (n * 1) e (List.replicate m z) 0 cur w hg (by simp; omega) (fun u hu => by rw [List.eq_of_mem_replicate hu]; exact hz1)
      simp only [Nat.add_zero, Nat.mul_one] at hst
      have hr : (Builtin.append_ #[t, tn] ty #[.slice (some ⟨g, 0, none⟩) n cap, .int k m]).run P w =
          .ok (.slice (some ⟨g, 0, none⟩) (n + m) cap) (w.setRow g (cur.toList.take n ++ List.replicate m z ++ cur.toList.drop (n + (List.replicate m z).length)).toArray) := by
        simp [Builtin.append_, run_underlying ht, run_underlying htn, sizeOf, typeInfo, zeroValue, hi, hz, hsize, asInt, asIntOf, hw, hneg, h48i, hroom, hm, hzl, Addr.add_lit, hst]
      refine ⟨_, _, hr, ⟨hlen, .inr ⟨g, cap, _, rfl, hbg, setRow_heap w g cur _ e _ hg, hroom, hcm, ?_, ?_⟩⟩, ⟨rfl, rfl, rfl, by simp, fun k _ hk => setRow_other w g k _ (fun e => hk (by simp [Value.ownBlock, e]))⟩⟩
      · simp only [List.size_toArray, List.length_append, List.length_take, List.length_drop, Array.length_toList, List.length_replicate]
        omega
      · have htake' : cur.toList.take n = xs := by simpa using htake
        rw [htake', ← hlen]
        exact List.take_left
    · have holds : ∀ j u, xs[j]? = some u → w.cell? ((⟨g, 0, none⟩ : Addr).add j) = some u := hown.cells (g := g) rfl
      have hfit : Builtin.nextslicecap (n + m) cap * i.bytes ≤ 281474976710656 := growslice_fits (by omega) hbytes
      have hf := run_firstCells_some (P := P) w.drew i.size n ⟨g, 0, none⟩ n cap xs (by rw [hsize]; exact hown.1) (by simpa using holds)
      have hn' : ¬ (n + m ≤ cap) := hroom
      have h63' : ¬ (9223372036854775807 < ((n : Int) + (m : Int))) := by omega
      have h48' : ¬ (281474976710656 < Builtin.nextslicecap (n + m) cap * i.bytes) := by omega
      rw [hsize] at hf
      have hr : (Builtin.append_ #[t, tn] ty #[.slice (some ⟨g, 0, none⟩) n cap, .int k m]).run P w =
          .ok (.slice (some ⟨w.heap.size, 0, none⟩) (n + m) (grownCap w (n + m) cap e)) (w.drew.alloc (.cells (xs.toArray ++ Builtin.zeroCells z.cells m ++ Builtin.zeroCells z.cells (grownCap w (n + m) cap e - (n + m))) e)) := by
        simp [Builtin.append_, run_underlying ht, run_underlying htn, sizeOf, typeInfo, zeroValue, hi, hz, hsize, asInt, asIntOf, hw, hneg, h48i, hn', hm, h63', h48', Question.forced, hf, newRow, grownCap]
      have hgr := grown cap (by omega) (Value.ownBlock (.slice (some ⟨g, 0, none⟩) n cap))
      exact ⟨_, _, hr, hgr.1, hgr.2⟩
end
structure Kd (α : Type) where
  v : α → Value
  st : TypeId
  et : TypeId
  z : α
  b : Nat
  one : ∀ x, (v x).oneCell' = true
  und : Try.prog.underlying st = some (.slice et)
  info : (Try.prog.info? et).map (fun i => (i.zero, i.size, i.bytes)) = some (some (v z), 1, b)
  zc : (v z).cells = #[v z]
  b8 : b ≤ 8
  el : Try.prog.elem st = et
  sz : ∀ W, (sizeOf (Try.prog.elem st)).run Try.prog W = .ok 1 W
theorem u64_infoS : (Try.prog.info? 28).map (fun i => (i.zero, i.size, i.bytes)) = some (some (.int .u64 0), 1, 8) := by kernel_rfl
theorem bool_infoS : (Try.prog.info? 4).map (fun i => (i.zero, i.size, i.bytes)) = some (some (.bool false), 1, 1) := by kernel_rfl
def kI : Kd Int := ⟨iv, 23, 3, 0, 8, fun _ => rfl, Try.underlying23, int_info, rfl, by omega, by kernel_rfl, fun W => by kernel_rfl⟩
def kB : Kd Nat := ⟨bv, 22, 5, 0, 1, fun _ => rfl, Try.underlying22, u8_info, rfl, by omega, by kernel_rfl, fun W => by kernel_rfl⟩
def nv (x : Nat) : Value := .int .u64 (x : Int)
def kN : Kd Nat := ⟨nv, 24, 28, 0, 8, fun _ => rfl, Try.underlying24, u64_infoS, rfl, by omega, by kernel_rfl, fun W => by kernel_rfl⟩
def kO : Kd Bool := ⟨.bool, 25, 4, false, 1, fun _ => rfl, Try.underlying25, bool_infoS, rfl, by omega, by kernel_rfl, fun W => by kernel_rfl⟩
section
variable {α : Type} (K : Kd α)
def Lead (w : World) (B : Nat) (A : Option Addr) (l : List α) : Prop :=
  0 < l.length → ∃ b off, A = some ⟨b, off, none⟩ ∧ b < B ∧ ∀ (j : Nat) (h : j < l.length), w.cell? ⟨b, off + j, none⟩ = some (K.v l[j])
variable {K}
theorem Lead.below {w w' : World} {B : Nat} {A : Option Addr} {l : List α} (h : Lead K w B A l) (hb : Below B w w') : Lead K w' B A l := fun hl => by
  obtain ⟨b, off, e, hB, hc⟩ := h hl
  exact ⟨b, off, e, hB, fun j hj => (hb.cell hB).trans (hc j hj)⟩
theorem Lead.more {w : World} {B B' : Nat} {A : Option Addr} {l : List α} (h : Lead K w B A l) (hB : B ≤ B') : Lead K w B' A l := fun hl => by
  obtain ⟨b, off, e, h1, h2⟩ := h hl
  exact ⟨b, off, e, by omega, h2⟩
theorem Lead.src {w : World} {B : Nat} {ad : Addr} {l : List α} (h : Lead K w B (some ad) l) : ∀ j u, (l.map K.v)[j]? = some u → w.cell? (ad.add j) = some u := by
  intro j u hu
  have hj : j < l.length := by
    rcases Nat.lt_or_ge j l.length with hj | hj
    · exact hj
    · rw [List.getElem?_eq_none (by simpa using hj)] at hu; cases hu
  obtain ⟨b, off, he, _, hcell⟩ := h (by omega)
  injection he with he
  subst he
  have := hcell j hj
  rw [List.getElem?_map, List.getElem?_eq_getElem hj] at hu
  simp at hu
  subst hu
  by_cases h0 : j = 0
  · subst h0; simpa [Addr.add] using this
  · simpa [Addr.add, h0] using this
theorem Lead.drop {w : World} {B b off : Nat} {l : List α} (h : Lead K w B (some ⟨b, off, none⟩) l) (k : Nat) : Lead K w B (some ⟨b, off + k, none⟩) (l.drop k) := by
  intro hl
  have hl' : k < l.length := by simp at hl; omega
  obtain ⟨b', off', e, hb, hc⟩ := h (by omega)
  injection e with e
  injection e with e1 e2 _
  subst e1 e2
  refine ⟨b, off + k, rfl, hb, fun j hj => ?_⟩
  have := hc (k + j) (by simp at hj; omega)
  rw [List.getElem_drop, show off + k + j = off + (k + j) from by omega]
  exact this
theorem Lead.take {w : World} {B : Nat} {A : Option Addr} {l : List α} (h : Lead K w B A l) (k : Nat) : Lead K w B A (l.take k) := by
  intro hl
  obtain ⟨b, off, e, hb, hc⟩ := h (by simp at hl; omega)
  refine ⟨b, off, e, hb, fun j hj => ?_⟩
  rw [List.getElem_take]
  exact hc j (by simp at hj; omega)
theorem kone (l : List α) : ∀ u ∈ l.map K.v, u.oneCell' = true := fun u hu => by
  obtain ⟨x, _, rfl⟩ := List.mem_map.1 hu
  exact K.one x
variable (K)
def OwnK (w : World) (base : Nat) (v : Value) (l : List α) : Prop := w.ownsRow base K.et 1 v l.length (l.map K.v)
variable {K}
theorem OwnK.nil (w : World) (base : Nat) : OwnK K w base (.slice none 0 0) ([] : List α) := World.ownsRow_nil _ _ _ _
theorem OwnK.lt {w : World} {base : Nat} {v : Value} {l : List α} (h : OwnK K w base v l) : ∀ k, v.ownBlock = some k → base ≤ k ∧ k < w.heap.size := fun k hk => World.ownsRow.lt h k hk
theorem OwnK.keep {w w' : World} {base B : Nat} {v : Value} {l : List α} (h : OwnK K w base v l) (hb : Below B w w') (hB : w.heap.size ≤ B) : OwnK K w' base v l := by
  refine ⟨h.1, ?_⟩
  have hlt := h.lt
  rcases h.2 with ⟨rfl, h0⟩ | ⟨g, cap, cur, rfl, h1, h2, h3, h4, h5⟩
  · exact .inl ⟨rfl, h0⟩
  · exact .inr ⟨g, cap, cur, rfl, h1, (hb.block g (by have := (hlt g rfl).2; omega)).trans h2, h3, h4, h5⟩
theorem OwnK.lead {w : World} {base : Nat} {v : Value} {l : List α} (h : OwnK K w base v l) :
    ∃ A cap, v = .slice A l.length cap ∧ Lead K w w.heap.size A l ∧ l.length ≤ cap ∧ (A = none → cap = 0) := by
  have hlt := h.lt
  rcases h.2 with ⟨rfl, h0⟩ | ⟨g, cap, cur, rfl, h1, h2, h3, h4, h5⟩
  · exact ⟨none, 0, by rw [h0], fun h => by omega, by omega, fun _ => rfl⟩
  · refine ⟨some ⟨g, 0, none⟩, cap, rfl, fun _ => ⟨g, 0, rfl, (hlt g rfl).2, fun j hj => ?_⟩, h3, fun h => by cases h⟩
    have hc := World.ownsRow.cellAt h j (by omega)
    rw [Nat.zero_add, hc]
    simp [hj]
theorem belowK {w w' : World} {base : Nat} {v : Value} {l : List α} (h : OwnK K w base v l) (hb : base ≤ w.heap.size) (hg : w.grownBy w' v.ownBlock) : Below base w w' :=
  (Below.refl _ _).grown hg hb (fun k hk => (h.lt k hk).1)
variable {w : World} {ops : Array Oper} {rest : List Oper} {o : Oper} {a : Act} {Q : Exit → Act → World → Prop}
theorem app_k (K : Kd α) (hgd : o.guard = none) (s x : Operand) (ho : o.op = .call { callee := .builtin .append, args := #[s, x], argTypes := #[K.st, K.st] })
    (base : Nat) (v : Value) (l : List α) (hs : a.eval s = v) (hown : OwnK K w base v l) (A : Option Addr) (l' : List α) (m c B k : Nat) (hm : l'.length = m) (hx : a.eval x = .slice A m c) (hr : Lead K w B A l') (hc : A = none → c = 0)
    (hk : (l ++ l').length = k) (hlen : k * 8 ≤ 140737488355328) (hbase : base ≤ w.heap.size)
    (h : ∀ A' c' w', OwnK K w' base (.slice A' k c') (l ++ l') → Lead K w' w'.heap.size A' (l ++ l') → k ≤ c' → (A' = none → c' = 0) → Below base w w' → wpList Try.prog ops Q rest (a.put o.dst (.slice A' k c')) w') : wpList Try.prog ops Q (o :: rest) a w := by
  obtain ⟨i0, hi0, hz0, hz1, hz2⟩ := info_parts K.info
  subst hm
  subst hk
  have hb8 := K.b8
  have fin : ∀ v' w', OwnK K w' base v' (l ++ l') → Below base w w' → wpList Try.prog ops Q rest (a.put o.dst v') w' := fun v' w' h1 h2 => by
    obtain ⟨A', c', rfl, h3, h4, h5⟩ := h1.lead
    exact h A' c' w' h1 h3 h4 h5 h2
  cases A with
  | none =>
    have hl0 : l' = [] := by
      rcases Nat.eq_zero_or_pos l'.length with h0 | h0
      · exact List.eq_nil_of_length_eq_zero h0
      · obtain ⟨b, off, he, _⟩ := hr h0
        cases he
    subst hl0
    have hc0 := hc rfl
    subst hc0
    exact wpList_append_own_none hgd s x _ ho base K.et i0 1 K.und hi0 v l.length (l.map K.v) hs hown hx (fin v w (by rw [List.append_nil]; exact hown) (Below.refl _ _))
  | some ad =>
    simp only [List.length_append] at hlen
    refine wpList_append_own_at w hgd s x _ ho base K.et i0 (K.v K.z) 1 K.b K.und hi0 hz0 hz1 hz2 (by rw [K.zc]; rfl) (by omega) v l.length (l.map K.v) hs hown ad l'.length c (l'.map K.v) hx (by simp) hr.src (kone l') (by simp only [maxLen]; omega) (Nat.le_trans (Nat.mul_le_mul_left _ hb8) hlen) hbase ?_
    intro v' w' h1 h2 _ _
    refine fin v' w' ?_ (belowK hown hbase h2)
    unfold OwnK
    rw [List.length_append, List.map_append]
    exact h1
theorem app_z (K : Kd α) (hgd : o.guard = none) (s x : Operand) (tn : TypeId) (kn kk : IntKind) (ho : o.op = .call { callee := .builtin .append, args := #[s, x], argTypes := #[K.st, tn] }) (htn : Try.prog.underlying tn = some (.int kn))
    (base : Nat) (v : Value) (l : List α) (hs : a.eval s = v) (hown : OwnK K w base v l) (m k : Nat) (hx : a.eval x = .int kk (m : Int))
    (hk : l.length + m = k) (hlen : k * 8 ≤ 140737488355328) (hbase : base ≤ w.heap.size)
    (h : ∀ A' c' w', OwnK K w' base (.slice A' k c') (l ++ List.replicate m K.z) → Lead K w' w'.heap.size A' (l ++ List.replicate m K.z) → k ≤ c' → (A' = none → c' = 0) → w.grownBy w' v.ownBlock → wpList Try.prog ops Q rest (a.put o.dst (.slice A' k c')) w') : wpList Try.prog ops Q (o :: rest) a w := by
  obtain ⟨i0, hi0, hz0, hz1, hz2⟩ := info_parts K.info
  subst hk
  have hb8 := K.b8
  obtain ⟨v', w', hr, h1, h2⟩ := run_append_own_zeros (P := Try.prog) w base K.st tn o.type K.et i0 (K.v K.z) K.b kk kn K.und htn hi0 hz0 hz1 hz2 K.zc (K.one _) hb8 v l.length (l.map K.v) hown m (by simp only [maxLen]; omega) (Nat.le_trans (Nat.mul_le_mul_left _ hb8) hlen) hbase
  refine Lib.wpList_append_run w hgd s x K.st tn ho v (.int kk (m : Int)) hs hx v' w' hr ?_
  have h1' : OwnK K w' base v' (l ++ List.replicate m K.z) := by
    unfold OwnK
    rw [List.length_append, List.length_replicate, List.map_append, List.map_replicate]
    exact h1
  obtain ⟨A', c', rfl, h3, h4, h5⟩ := h1'.lead
  rw [List.length_append, List.length_replicate] at h4 ⊢
  have h6 := h1'
  rw [List.length_append, List.length_replicate] at h6
  exact h A' c' w' h6 h3 h4 h5 h2
end
theorem bytes_lead {w : World} {B : Nat} {A : Option Addr} {l : List Nat} (h : Bytes w B A l) : Lead kB w B A l := h.2
theorem lead_bytes {w : World} {B : Nat} {A : Option Addr} {l : List Nat} (hl : ∀ x ∈ l, x < 256) (h : Lead kB w B A l) : Bytes w B A l := ⟨hl, h⟩
theorem ints_lead {w : World} {B : Nat} {A : Option Addr} {l : List Int} (h : Ints w B A l) : Lead kI w B A l := h
theorem lead_ints {w : World} {B : Nat} {A : Option Addr} {l : List Int} (h : Lead kI w B A l) : Ints w B A l := h
theorem nums_lead {w : World} {B : Nat} {A : Option Addr} {l : List Nat} (h : Nums w B A l) : Lead kN w B A l := h
theorem lead_nums {w : World} {B : Nat} {A : Option Addr} {l : List Nat} (h : Lead kN w B A l) : Nums w B A l := h
theorem bools_lead {w : World} {B : Nat} {A : Option Addr} {l : List Bool} (h : Bools w B A l) : Lead kO w B A l := h
theorem lead_bools {w : World} {B : Nat} {A : Option Addr} {l : List Bool} (h : Lead kO w B A l) : Bools w B A l := h
end Go.Proofs.Ytdcolpmmojiffaa.Sto
