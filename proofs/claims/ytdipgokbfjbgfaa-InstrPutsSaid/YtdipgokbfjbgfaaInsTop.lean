/-
  InsOwnBody: instr.Body: what it answers is bodyRes. Condition: the slice leads to bytes, at most 10,000,000.
  InsOwnFmd: instr.Formed: what it answers is formedB. Conditions: numbers of 64 bits, at most 100 labels.
  InsOwnClosed: instr.Closed: what it answers is shutB. Conditions: the slice leads to instructions, short.
  InsOwnPut: instr.Put, instr.PutBody: what they answer. Conditions: the slice leads to bytes, at most 1000; instructions in memory, short.
  InsOwnAll: instr's own functions answer as the plain words do: the premise of the layer's laws. No condition.
-/
import Derived.Test.YtdipgokbfjbgfaaInsRdOne
import Derived.Test.YtdipgokbfjbgfaaInsBlk
import Derived.Test.YtdipgokbfjbgfaaInsPlain
import Derived.Test.YtdipgokbfjbgfaaInsOwnFormed
import Derived.Test.YtdipgokbfjbgfaaInsBo3
import Derived.Deep.RegionHeld3
import Derived.Test.YtdipgokbfjbgfaaInsDoes
namespace Go.Proofs.Ytdipgokbfjbgfaa.Ins
open Go.RowKit Leb Typ

/-- What two slices own is apart. -/
def Off (v v' : Value) : Prop := ∀ b, v.ownBlock = some b → v'.ownBlock ≠ some b
def sl (e : Ent) : Value := .slice e.2.1 e.1.l.length e.2.2
theorem off_new {W : World} {base e size n : Nat} {v v' : Value} {xs : List Value} (h : W.ownsRow base e size v n xs) (hn : ∀ b, v'.ownBlock = some b → W.heap.size ≤ b) : Off v v' ∧ Off v' v := by
  refine ⟨fun b hb e => ?_, fun b hb e => ?_⟩
  · have := (World.ownsRow.lt h b hb).2; have := hn b e; omega
  · have := (World.ownsRow.lt h b e).2; have := hn b hb; omega
theorem off_next {W : World} {base e size n : Nat} {u v v' : Value} {xs : List Value} (h : Off u v) (hu : W.ownsRow base e size u n xs) (hv : v'.ownBlock = v.ownBlock ∨ ∀ b, v'.ownBlock = some b → W.heap.size ≤ b) : Off u v' := by
  rcases hv with e | e
  · intro b hb; rw [e]; exact h b hb
  · exact (off_new hu e).1
theorem Off.symm {v v' : Value} (h : Off v v') : Off v' v := fun b hb e => h b e hb
theorem app_insF {w : World} {ops : Array Oper} {rest : List Oper} {o : Oper} {a : Act} {Q : Exit → Act → World → Prop} (hgd : o.guard = none) (s x : Operand) (ho : o.op = .call { callee := .builtin .append, args := #[s, x], argTypes := #[26, 26] })
    (base : Nat) (v : Value) (es : List Ent) (hs : a.eval s = v) (hown : OwnX w base v es) (b off : Nat) (es' : List Ent) (m c B k : Nat) (hm : es'.length = m) (hx : a.eval x = .slice (some ⟨b, off, none⟩) m c) (hr : RowE w B (some ⟨b, off, none⟩) es')
    (hk : (es ++ es').length = k) (hlen : k ≤ 1000000) (hbase : base ≤ w.heap.size)
    (h : ∀ A' c' w', OwnX w' base (.slice A' k c') (es ++ es') → w.grownBy w' v.ownBlock → ((Value.slice A' k c').ownBlock = v.ownBlock ∨ (Value.slice A' k c').ownBlock = some w.heap.size) → wpList Try.prog ops Q rest (a.put o.dst (.slice A' k c')) w') : wpList Try.prog ops Q (o :: rest) a w := by
  obtain ⟨i0, hi0, hz0, hz1, hz2⟩ := info_parts ins_info
  subst hm hk
  simp only [List.length_append] at hlen
  refine wpList_append_own_at w hgd s x _ ho base 25 i0 _ 5 56 Try.underlying26 hi0 hz0 hz1 hz2 rfl (by omega) v es.length (els es) hs hown ⟨b, off, none⟩ es'.length c (els es') hx (els_len es') (ents_cells hr) (els_one es') (by simp only [maxLen]; omega) (by omega) hbase ?_
  intro v' w' h1 h2 _ h4
  have ho' : OwnX w' base v' (es ++ es') := by
    unfold OwnX
    rw [List.length_append, els_app]
    exact h1
  obtain ⟨A', c', rfl, _, _, _⟩ := ho'.row
  exact h A' c' w' ho' h2 h4
/-- While a body is read: the blocks, the instructions, their labels. -/
structure BS (w W : World) (k : Nat) (st : List Nat) (n : Nat) (ended : Bool) (v lv : Value) (es : List Ent) : Prop where
  bk : Bk W k st n ended v
  below : Below w.heap.size w W
  lo : w.heap.size ≤ k
  own : OwnX W (k + 1) lv es
  labs : ∀ e ∈ es, OwnI W (k + 1) (sl e) e.1.l
  off : Off lv v
  offs : ∀ e ∈ es, Off (sl e) v ∧ Off (sl e) lv
theorem Bk.keep {W W' : World} {k n : Nat} {st : List Nat} {b : Bool} {v : Value} (h : Bk W k st n b v) (hb : Below W.heap.size W W') : Bk W' k st n b v := by
  have hh := hb.block k h.lt
  have C : ∀ i, W'.cell? ⟨k, i, none⟩ = W.cell? ⟨k, i, none⟩ := fun i => World.cell?_of_block hh
  have F : ∀ i, W'.frozen? ⟨k, i, none⟩ = W.frozen? ⟨k, i, none⟩ := fun i => World.frozen?_of_block hh
  exact ⟨Nat.lt_of_lt_of_le h.lt hb.size, (C _).trans h.c0, (C _).trans h.c1, (C _).trans h.c2, (F _).trans h.z0, (F _).trans h.z1, (F _).trans h.z2, rowKeep h.own fun b e => hb.block b (World.ownsRow.lt h.own b e).2⟩
section
variable {w W W' : World} {k n : Nat} {st : List Nat} {b : Bool} {v lv : Value} {es : List Ent} (h : BS w W k st n b v lv es)
include h
theorem BS.keep (hb : Below W.heap.size W W') : BS w W' k st n b v lv es :=
  ⟨h.bk.keep hb, h.below.trans (hb.mono h.below.size), h.lo, rowKeep h.own fun b e => hb.block b (World.ownsRow.lt h.own b e).2, fun e he => rowKeep (h.labs e he) fun b e' => hb.block b (World.ownsRow.lt (h.labs e he) b e').2, h.off, h.offs⟩
theorem BS.take {st' : List Nat} {n' : Nat} {b' : Bool} {v' : Value} (hk : Kept W W' k v v') (hB : Bk W' k st' n' b' v') : BS w W' k st' n' b' v' lv es := by
  have hlo := h.lo
  have hsz := h.below.size
  refine ⟨hB, ⟨hk.os.trans h.below.os, hk.tape.trans h.below.tape, hk.output.trans h.below.output, Nat.le_trans hsz hk.size, fun i hi => (hk.block i (by omega) (by omega) (fun e => ?_)).trans (h.below.block i hi)⟩, hlo,
    rowKeep h.own fun b e => hk.block b (World.ownsRow.lt h.own b e).2 (by have := (World.ownsRow.lt h.own b e).1; omega) (h.off b e),
    fun e he => rowKeep (h.labs e he) fun b e' => hk.block b (World.ownsRow.lt (h.labs e he) b e').2 (by have := (World.ownsRow.lt (h.labs e he) b e').1; omega) ((h.offs e he).1 b e'),
    off_next h.off h.own hk.own, fun e he => ⟨off_next (h.offs e he).1 (h.labs e he) hk.own, (h.offs e he).2⟩⟩
  have := (World.ownsRow.lt h.bk.own i e).1; omega
/-- An instruction more. -/
theorem BS.more {e : Ent} {A' : Option Addr} {m c' : Nat} (hbe : OwnI W (k + 1) (sl e) e.1.l) (hev : Off (sl e) v ∧ Off (sl e) lv) (ho : OwnX W' (k + 1) (.slice A' m c') (es ++ [e])) (hg : W.grownBy W' lv.ownBlock) (hb' : (Value.slice A' m c').ownBlock = lv.ownBlock ∨ (Value.slice A' m c').ownBlock = some W.heap.size) : BS w W' k st n b v (.slice A' m c') (es ++ [e]) := by
  have hlo := h.lo
  have hsz := h.below.size
  have hnew : (Value.slice A' m c').ownBlock = lv.ownBlock ∨ ∀ b, (Value.slice A' m c').ownBlock = some b → W.heap.size ≤ b := by
    rcases hb' with e | e
    · exact .inl e
    · refine .inr fun b hb => ?_
      rw [e] at hb
      injection hb with hb
      omega
  have hk : W'.heap[k]? = W.heap[k]? := hg.block k h.bk.lt (fun e => by have := (World.ownsRow.lt h.own k e.symm).1; omega)
  have C : ∀ i, W'.cell? ⟨k, i, none⟩ = W.cell? ⟨k, i, none⟩ := fun i => World.cell?_of_block hk
  have F : ∀ i, W'.frozen? ⟨k, i, none⟩ = W.frozen? ⟨k, i, none⟩ := fun i => World.frozen?_of_block hk
  have hB : Bk W' k st n b v := ⟨Nat.lt_of_lt_of_le h.bk.lt hg.size, (C _).trans h.bk.c0, (C _).trans h.bk.c1, (C _).trans h.bk.c2, (F _).trans h.bk.z0, (F _).trans h.bk.z1, (F _).trans h.bk.z2,
    rowKeep h.bk.own fun b e => hg.block b (World.ownsRow.lt h.bk.own b e).2 (fun e' => h.off b e'.symm e)⟩
  have hall : ∀ e' ∈ es ++ [e], OwnI W (k + 1) (sl e') e'.1.l ∧ Off (sl e') v ∧ Off (sl e') lv := by
    intro e' he
    rcases List.mem_append.1 he with he | he
    · exact ⟨h.labs e' he, h.offs e' he⟩
    · rw [List.mem_singleton.1 he]; exact ⟨hbe, hev⟩
  refine ⟨hB, h.below.grown hg hsz (fun i hi => by have := (World.ownsRow.lt h.own i hi).1; omega), hlo, ho,
    fun e' he => rowKeep (hall e' he).1 fun b e2 => hg.block b (World.ownsRow.lt (hall e' he).1 b e2).2 (fun e3 => (hall e' he).2.2 b e2 e3.symm),
    (off_next h.off.symm h.bk.own hnew).symm, fun e' he => ⟨(hall e' he).2.1, off_next (hall e' he).2.2 (hall e' he).1 hnew⟩⟩
end
theorem bs_of (w : World) (t : TypeId) : BS w (w.alloc (.cells #[.slice none 0 0, .int .i64 0, .bool false] t)) w.heap.size [] 0 false (.slice none 0 0) (.slice none 0 0) [] := by
  have hr := (MapKept.heap_alloc w (.cells #[.slice none 0 0, .int .i64 0, .bool false] t)).1
  refine ⟨⟨by simp, ?_, ?_, ?_, ?_, ?_, ?_, World.ownsRow_nil _ _ _ _⟩, (Below.refl _ _).alloc (Nat.le_refl _) _, Nat.le_refl _, OwnX.nil _ _, by simp, fun b hb => by simp [Value.ownBlock] at hb, by simp⟩
  all_goals first
    | (simp only [World.cell?, hr]; rfl)
    | (simp only [World.frozen?, hr]; rfl)
theorem BS.sli {w W : World} {k n : Nat} {st : List Nat} {b : Bool} {v lv : Value} {es : List Ent} (h : BS w W k st n b v lv es) : ∃ A c, lv = .slice A es.length c ∧ Sli W A c (es.map fun e => e.1) := by
  obtain ⟨A, c, rfl, h1, h2, h3⟩ := h.own.row
  refine ⟨A, c, rfl, inss_of h1 fun e he => ?_, h3, by simpa using h2⟩
  obtain ⟨A', c', e1, h4, h5, h6⟩ := (h.labs e he).ints
  simp only [sl, Value.slice.injEq] at e1
  obtain ⟨e2, _, e3⟩ := e1
  exact ⟨by rw [e2]; exact h4, by rw [e3]; exact h5, by rw [e2, e3]; exact h6⟩
/-- What was read, and what is still read, together. -/
def joinB (xs : List Ins) (r : List Ins × Nat × Nat) : List Ins × Nat × Nat := if r.2.2 = 0 then (xs ++ r.1, r.2.1, 0) else ([], 0, r.2.2)
theorem bodyF_errs (bs : List Nat) (f n p : Nat) (st : List Nat) (h : (bodyF bs f n st p).2.2 ≠ 0) : (bodyF bs f n st p).1 = [] ∧ (bodyF bs f n st p).2.1 = 0 := body_err bs f n p st h
theorem joinB_nil (bs : List Nat) (f n p : Nat) (st : List Nat) : joinB [] (bodyF bs f n st p) = bodyF bs f n st p := by
  unfold joinB
  by_cases h : (bodyF bs f n st p).2.2 = 0
  · rw [if_pos h, List.nil_append, ← h]
  · obtain ⟨h1, h2⟩ := body_err bs f n p st h
    rw [if_neg h, ← h1, ← h2]
/-- One round. -/
theorem joinB_err (bs : List Nat) (xs : List Ins) (f n p e : Nat) (st : List Nat) (x : Ins) (q : Nat) (h : oneRes (bs.drop p) 0 = (x, q, e)) (he : e ≠ 0) : joinB xs (bodyF bs (f + 1) n st p) = ([], 0, e) := by
  have h1 : (oneRes bs p).2.2 = e := by rw [oneRes_from, h]; simp [sh, he]
  have h2 : bodyF bs (f + 1) n st p = ([], 0, e) := by simp only [bodyF]; rw [if_pos (by rw [h1]; exact he), h1]
  rw [h2]; simp [joinB, he]
theorem joinB_take (bs : List Nat) (xs : List Ins) (f n p : Nat) (st : List Nat) (x : Ins) (q : Nat) (hn : n ≤ 2000) (h : oneRes (bs.drop p) 0 = (x, q, 0)) :
    ((takeRes x.op st n).1 ≠ 0 → joinB xs (bodyF bs (f + 1) n st p) = ([], 0, (takeRes x.op st n).1)) ∧
    ((takeRes x.op st n).1 = 0 → n < 2000 ∧ ((takeRes x.op st n).2.2 = true → joinB xs (bodyF bs (f + 1) n st p) = (xs ++ [x], p + q, 0)) ∧
      ((takeRes x.op st n).2.2 = false → joinB xs (bodyF bs (f + 1) n st p) = joinB (xs ++ [x]) (bodyF bs f (n + 1) (takeRes x.op st n).2.1 (p + q)))) := by
  have h1 : oneRes bs p = (x, p + q, 0) := by rw [oneRes_from, h]; simp [sh]
  unfold takeRes
  by_cases h2 : n = 2000
  · rw [if_pos h2]
    refine ⟨fun _ => ?_, fun h => absurd h (by simp)⟩
    simp only [bodyF]
    rw [h1]
    simp [h2, joinB]
  · rw [if_neg h2, bodyF_step bs f n p (p + q) st x h1 (by omega)]
    generalize blocks x.op st = g
    obtain ⟨e, o⟩ := g
    cases o with
    | none =>
      simp only
      by_cases he : e = 0
      · subst he
        simp only [if_true]
        exact ⟨fun h => absurd rfl h, fun _ => ⟨by omega, fun _ => by simp [joinB], fun h => absurd h (by simp)⟩⟩
      · simp only [he, if_false]
        exact ⟨fun _ => by simp [joinB, he], fun h => h.elim⟩
    | some st' =>
      simp only
      refine ⟨fun h => absurd rfl h, fun _ => ⟨by omega, fun h => absurd h (by simp), fun _ => ?_⟩⟩
      generalize bodyF bs f (n + 1) st' (p + q) = r
      obtain ⟨ys, s, e'⟩ := r
      by_cases he : e' = 0
      · subst he; simp [joinB]
      · simp [joinB, he]
set_option maxHeartbeats 4000000 in
set_option maxRecDepth 100000 in
theorem body_any (A : Option Addr) (l : List Nat) (c : Nat) (w : World) (hs : Slc w A c l) (hl : l.length ≤ 10000000) : Calls Try.prog 24 #[.slice A l.length c] w (Body3 w (bodyRes l)) := by
  have HS := Lib.hid hs
  have HL := Lib.hid hl
  have HB0 := Lib.hid (bs_of w 65)
  have HR : Hid (joinB [] (bodyF l (l.length + 1) 0 [] 0) = bodyRes l) := Lib.hid (joinB_nil _ _ _ _ _)
  generalize bodyRes l = R at *
  clear hs hl
  go_enter Try.func24, Try.ntmps24
  go_wp2_with fail
  go_loopw [5, 7] (fun x5 x7 wr => ∃ (p n : Nat) (st : List Nat) (ended : Bool) (v lv : Value) (es : List Ent), x5 = lv ∧ x7 = .int .i64 (p : Int) ∧ BS w wr w.heap.size st n ended v lv es ∧ Hid (p ≤ l.length ∧ n ≤ 2000 ∧ st.length ≤ 64 ∧ es.length = n ∧ (ended = true → R = (es.map (fun e => e.1), p, 0)) ∧ (ended = false → ∃ f, l.length - p < f ∧ joinB (es.map fun e => e.1) (bodyF l f n st p) = R))) (fun _ x7 _ => l.length + 1 - (intOf x7).toNat)
  case atStart => exact ⟨0, 0, [], false, _, _, [], rfl, by go_num, HB0.out, Lib.hid ⟨Nat.zero_le _, by omega, by simp, rfl, fun h => absurd h (by simp), fun _ => ⟨_, by omega, HR.out⟩⟩⟩
  case round =>
    obtain ⟨p, n, st, ended, v, lv, es, rfl, rfl, hbs, HI⟩ := hrel
    clear HB0 HR
    obtain ⟨h1, h2, h3, h4, h5, h6⟩ := HI.out
    have hLL := HL.out
    cases ended with
    | true =>
      have HE := Lib.hid (h5 rfl)
      obtain ⟨A1, c1, hlv, hsli⟩ := hbs.sli
      have hc2 := hbs.bk.c2
      have HX := Lib.hid (And.intro hlv (And.intro hsli hbs.below))
      clear hbs HI h1 h2 h3 h4 h5 h6 hlv hsli hLL
      go_wp2
      go_ret3
      rw [HE.out, HX.out.1]
      refine ⟨A1, c1, ?_, HX.out.2.1, HX.out.2.2⟩
      rw [List.length_map]
      rfl
    | false =>
      obtain ⟨f, hf, hj⟩ := h6 rfl
      obtain ⟨f, rfl⟩ : ∃ f', f = f' + 1 := ⟨f - 1, by omega⟩
      obtain ⟨A', c', HSL, hn', hr', hB⟩ := slice_at A l c p w.heap.size w HS.out.bytes HS.out.nil HS.out.room h1
      have hdl : (l.drop p).length = l.length - p := by simp
      have hone := fun W (hW : Below w.heap.size w W) => oneO_any A' (l.drop p) c' W ⟨((hB w HS.out.bytes).below hW).more hW.size, hn', by omega⟩ (by omega)
      rw [hdl] at hone
      generalize hg : oneRes (l.drop p) 0 = g at *
      obtain ⟨x, q, e⟩ := g
      have hc2 := hbs.bk.c2
      have HONE := Lib.hid hone
      clear hone HI h5 h6 hB hn' hr'
      by_cases he : e = 0
      · subst he
        have hq : p + q ≤ l.length ∧ 0 < q := by
          have := oneRes_le hg
          omega
        obtain ⟨j1, j2⟩ := joinB_take l (es.map fun e => e.1) f n p st x q h2 hg
        rw [hj] at j1 j2
        have hT := fun W (hW : Bk W w.heap.size st n false v) => take_any hW x.op h2 h3
        have hts := takeRes_sz x.op st n h3
        generalize htk : takeRes x.op st n = tk at *
        obtain ⟨te, st', ended'⟩ := tk
        simp only at j1 j2 hT hts
        have HT := Lib.hid hT
        have HBS := Lib.hid hbs
        have hpq : wrap64 ((p : Int) + (q : Int)) = ((p + q : Nat) : Int) := by rw [IntWalk.wrap64_in _ (by omega)]; omega
        generalize hp2 : p + q = p2 at *
        have HP2 := Lib.hid hp2
        clear hp2
        clear hj hT htk hg hdl
        by_cases hte : te = 0
        · subst hte
          obtain ⟨k1, k2, k3⟩ := j2 rfl
          have HK := Lib.hid (And.intro k1 (And.intro k2 (And.intro k3 (And.intro hq (And.intro hts.1 (And.intro h4 hf))))))
          clear j1 j2 k1 k2 k3 hq hts h4 hf h2 h3 hbs
          go_wp2_with fail
          refine (HONE.out _ HBS.out.below).mono ?_
          rintro en w3 ⟨LA, lc, ln, hln, rfl, hown3, hb3⟩
          have HLN := Lib.hid hln
          have hb4 : Below wr.heap.size wr (w3.alloc (.cells #[.int .i64 x.op, .int .i64 x.a, .int .i64 x.b, .int .i64 x.k, .slice LA ln lc] 25)) := hb3.alloc hb3.size _
          have HB4 := Lib.hid (HBS.out.keep hb4)
          have HO4 : Hid (OwnI (w3.alloc (.cells #[.int .i64 x.op, .int .i64 x.a, .int .i64 x.b, .int .i64 x.k, .slice LA ln lc] 25)) wr.heap.size (.slice LA ln lc) x.l) := Lib.hid (hown3.alloc _)
          have HZ : Hid (wr.heap.size ≤ w3.heap.size) := Lib.hid hb3.size
          clear hln hown3 hb3 hb4 hc2 HONE HSL
          go_wp2_with fail
          refine (HT.out _ HB4.out.bk).mono ?_
          clear HT
          rintro en w5 ⟨v', rfl, hkept, hp⟩
          obtain rfl := HLN.out
          have B5 := HB4.out.take hkept (hp trivial)
          have hz := HZ.out
          have hkl := HBS.out.bk.lt
          have hbox := hkept.block w3.heap.size (by simp) (by omega) (fun e => by have := (World.ownsRow.lt HBS.out.bk.own _ e).2; omega)
          have d0 : w5.cell? ⟨w3.heap.size, 0, none⟩ = some (.int .i64 x.op) := (World.cell?_of_block hbox).trans (by simp)
          have d1 : w5.cell? ⟨w3.heap.size, 1, none⟩ = some (.int .i64 x.a) := (World.cell?_of_block hbox).trans (by simp)
          have d2 : w5.cell? ⟨w3.heap.size, 2, none⟩ = some (.int .i64 x.b) := (World.cell?_of_block hbox).trans (by simp)
          have d3 : w5.cell? ⟨w3.heap.size, 3, none⟩ = some (.int .i64 x.k) := (World.cell?_of_block hbox).trans (by simp)
          have d4 : w5.cell? ⟨w3.heap.size, 4, none⟩ = some (.slice LA x.l.length lc) := (World.cell?_of_block hbox).trans (by simp)
          have hbl : Below w5.heap.size w5 (w5.alloc (.cells #[.int .i64 x.op, .int .i64 x.a, .int .i64 x.b, .int .i64 x.k, .slice LA x.l.length lc] 25)) := (Below.refl _ _).alloc (Nat.le_refl _) _
          have hnew : ∀ b, (sl (x, LA, lc)).ownBlock = some b → wr.heap.size ≤ b := fun b e => (World.ownsRow.lt HO4.out b e).1
          have hown5 : OwnI w5 wr.heap.size (sl (x, LA, lc)) x.l := rowKeep HO4.out fun b e => hkept.block b (World.ownsRow.lt HO4.out b e).2 (by have := hnew b e; omega) (fun e' => by have := (World.ownsRow.lt HBS.out.bk.own b e').2; have := hnew b e; omega)
          have HO5 : Hid (OwnI (w5.alloc (.cells #[.int .i64 x.op, .int .i64 x.a, .int .i64 x.b, .int .i64 x.k, .slice LA x.l.length lc] 25)) (w.heap.size + 1) (sl (x, LA, lc)) x.l) := Lib.hid ((ownI_lo hown5 hkl).alloc _)
          have HOFF : Hid (Off (sl (x, LA, lc)) v' ∧ Off (sl (x, LA, lc)) u5) := Lib.hid ⟨off_next (off_new HBS.out.bk.own hnew).2 HO4.out hkept.own, (off_new HBS.out.own hnew).2⟩
          have HB5 := Lib.hid (B5.keep hbl)
          have hown : OwnX (w5.alloc (.cells #[.int .i64 x.op, .int .i64 x.a, .int .i64 x.b, .int .i64 x.k, .slice LA x.l.length lc] 25)) (w.heap.size + 1) u5 es := HB5.out.own
          have hrow := rowE_lit w5 [(x, LA, lc)] #[.int .i64 x.op, .int .i64 x.a, .int .i64 x.b, .int .i64 x.k, .slice LA x.l.length lc] 1 rfl rfl (by simp [maxLen])
          have hes : (es ++ [(x, LA, lc)]).length = n + 1 := by rw [List.length_append, HK.out.2.2.2.2.2.1]; rfl
          have hn1 : n + 1 ≤ 1000000 := by have := HK.out.1; omega
          have hbase : w.heap.size + 1 ≤ (w5.alloc (.cells #[.int .i64 x.op, .int .i64 x.a, .int .i64 x.b, .int .i64 x.k, .slice LA x.l.length lc] 25)).heap.size := by have := B5.bk.lt; simp; omega
          have HROW := Lib.hid hrow
          have HES := Lib.hid hes
          clear B5 hkept hp hbox hbl hnew hown5 hrow hes HO4 HB4 hz hkl HLN HZ
          go_wp2_with (at_builtin; refine app_insF rfl (.tmp 30) (.tmp 32) rfl (w.heap.size + 1) u5 es rfl hown w5.heap.size 0 [(x, LA, lc)] 1 1 _ (n + 1) rfl rfl HROW.out HES.out hn1 hbase ?_; intro A6 c6 w6 hown6 hg6 hob6)
          have hB6 := HB5.out.more HO5.out HOFF.out hown6 hg6 hob6
          obtain ⟨k1, k2, k3, k4, k5, k6, k7⟩ := HK.out
          have hm : p2 ≤ l.length ∧ n + 1 ≤ 2000 ∧ l.length - p2 < f ∧ l.length + 1 - p2 < l.length + 1 - p := by clear hpq; have := HP2.out; omega
          simp only [hpq]
          clear hpq
          go_roundw
          case rel =>
            refine ⟨p2, n + 1, st', ended', v', _, es ++ [(x, LA, lc)], rfl, rfl, hB6, Lib.hid ⟨hm.1, hm.2.1, k5, by rw [List.length_append, k6]; rfl, fun h => ?_, fun h => ⟨f, hm.2.2.1, ?_⟩⟩⟩
            · rw [k2 h, List.map_append]; rfl
            · rw [k3 h, List.map_append]; rfl
          case measure => simp [intOf]; omega
        · have HE := Lib.hid (j1 hte)
          have hne : ((te : Int) != 0) = true := by simp; omega
          clear j1 j2 hq hts h4 hf h2 h3 hbs
          go_wp2_with fail
          refine (HONE.out _ HBS.out.below).mono ?_
          rintro en w3 ⟨LA, lc, ln, hln, rfl, hown3, hb3⟩
          have hb4 : Below wr.heap.size wr (w3.alloc (.cells #[.int .i64 x.op, .int .i64 x.a, .int .i64 x.b, .int .i64 x.k, .slice LA ln lc] 25)) := hb3.alloc hb3.size _
          have HB4 := Lib.hid (HBS.out.keep hb4)
          clear hln hown3 hb3 hb4 hc2 HONE HSL
          go_wp2_with fail
          refine (HT.out _ HB4.out.bk).mono ?_
          clear HT
          rintro en w5 ⟨v', rfl, hkept, _⟩
          have HBL : Hid (Below w.heap.size w w5) := Lib.hid (by
            have hB := HB4.out
            exact ⟨hkept.os.trans hB.below.os, hkept.tape.trans hB.below.tape, hkept.output.trans hB.below.output, Nat.le_trans hB.below.size hkept.size, fun i hi => (hkept.block i (Nat.lt_of_lt_of_le hi hB.below.size) (by omega) (fun e => by have := (World.ownsRow.lt hB.bk.own i e).1; omega)).trans (hB.below.block i hi)⟩)
          clear hkept HB4
          go_wp2
          go_ret3
          rw [HE.out]
          exact ⟨none, 0, rfl, ⟨Inss.nil _ _ _, fun _ => rfl, Nat.le_refl _⟩, HBL.out⟩
      · have h0 := joinB_err l (es.map fun e => e.1) f n p e st x q hg he
        rw [hj] at h0
        have HE := Lib.hid h0
        have HBS := Lib.hid hbs
        have hne : ((e : Int) == 0) = false := by simp; omega
        have hne2 : ((e : Int) != 0) = true := by simp; omega
        clear h0 hj hg hbs h1 h2 h3 h4 hf hdl hLL
        go_wp2_with fail
        refine (HONE.out _ HBS.out.below).mono ?_
        rintro en w3 ⟨LA, lc, ln, hln, rfl, hown3, hb3⟩
        have HBL := Lib.hid (HBS.out.below.trans (hb3.mono HBS.out.below.size))
        clear hln hown3 hb3 hc2 HONE HSL
        go_wp2
        go_ret3
        rw [HE.out]
        exact ⟨none, 0, rfl, ⟨Inss.nil _ _ _, fun _ => rfl, Nat.le_refl _⟩, HBL.out.alloc HBL.out.size _⟩
end Go.Proofs.Ytdipgokbfjbgfaa.Ins
namespace Go.Proofs.Ytdipgokbfjbgfaa.Ins
open Go.RowKit Leb Typ

theorem fm_bare {op : Int} (a b k : Int) (l : List Int) (h : pat op = some (some [])) : formedB ⟨op, a, b, k, l⟩ = decide ((a = 0) ∧ (b = 0) ∧ (k = 0) ∧ (l = [])) := by
  rw [formed_lit (x := ⟨op, a, b, k, l⟩) h]
  apply decide_eq_decide.2
  simp [partFits, setParts, zeroIns, @eq_comm Int 0, @eq_comm (List Int) []]
theorem fm_t {op : Int} (a b k : Int) (l : List Int) (h : pat op = some (some [Part.t])) : formedB ⟨op, a, b, k, l⟩ = decide ((rightBlock a = true) ∧ (b = 0) ∧ (k = 0) ∧ (l = [])) := by
  rw [formed_lit (x := ⟨op, a, b, k, l⟩) h]
  apply decide_eq_decide.2
  simp [partFits, setParts, setPart, zeroIns, @eq_comm Int 0, @eq_comm (List Int) []]
theorem fm_a {op : Int} (a b k : Int) (l : List Int) (h : pat op = some (some [Part.a])) : formedB ⟨op, a, b, k, l⟩ = decide ((fitsU a) ∧ (b = 0) ∧ (k = 0) ∧ (l = [])) := by
  rw [formed_lit (x := ⟨op, a, b, k, l⟩) h]
  apply decide_eq_decide.2
  simp [partFits, setParts, setPart, zeroIns, @eq_comm Int 0, @eq_comm (List Int) []]
theorem fm_la {op : Int} (a b k : Int) (l : List Int) (h : pat op = some (some [Part.l, .a])) : formedB ⟨op, a, b, k, l⟩ = decide ((fitsU a) ∧ (labsB l = true) ∧ (b = 0) ∧ (k = 0)) := by
  rw [formed_lit (x := ⟨op, a, b, k, l⟩) h]
  apply decide_eq_decide.2
  simp only [List.mem_cons, List.not_mem_nil, or_false, forall_eq_or_imp, forall_eq, partFits, setParts, List.foldl, setPart, zeroIns, Ins.mk.injEq, true_and, and_true, labsB, decide_eq_true_eq, @eq_comm Int 0]
  exact ⟨fun h => ⟨h.1.2, h.1.1, h.2⟩, fun h => ⟨⟨h.2.1, h.1⟩, h.2.2⟩⟩
theorem fm_ab {op : Int} (a b k : Int) (l : List Int) (h : pat op = some (some [Part.a, .b])) : formedB ⟨op, a, b, k, l⟩ = decide ((fitsU a) ∧ (fitsU b) ∧ (k = 0) ∧ (l = [])) := by
  rw [formed_lit (x := ⟨op, a, b, k, l⟩) h]
  apply decide_eq_decide.2
  simp [partFits, setParts, setPart, zeroIns, @eq_comm Int 0, @eq_comm (List Int) [], and_assoc]
theorem fm_z {op : Int} (a b k : Int) (l : List Int) (h : pat op = some (some [Part.z])) : formedB ⟨op, a, b, k, l⟩ = decide ((a = 0) ∧ (b = 0) ∧ (k = 0) ∧ (l = [])) := by
  rw [formed_lit (x := ⟨op, a, b, k, l⟩) h]
  apply decide_eq_decide.2
  simp [partFits, setParts, setPart, zeroIns, @eq_comm Int 0, @eq_comm (List Int) []]
theorem fm_zz {op : Int} (a b k : Int) (l : List Int) (h : pat op = some (some [Part.z, .z])) : formedB ⟨op, a, b, k, l⟩ = decide ((a = 0) ∧ (b = 0) ∧ (k = 0) ∧ (l = [])) := by
  rw [formed_lit (x := ⟨op, a, b, k, l⟩) h]
  apply decide_eq_decide.2
  simp [partFits, setParts, setPart, zeroIns, @eq_comm Int 0, @eq_comm (List Int) []]
theorem fm_k {op : Int} (a b k : Int) (l : List Int) (h : pat op = some (some [Part.k])) : formedB ⟨op, a, b, k, l⟩ = decide ((-2147483648 ≤ k ∧ k ≤ 2147483647) ∧ (a = 0) ∧ (b = 0) ∧ (l = [])) := by
  rw [formed_lit (x := ⟨op, a, b, k, l⟩) h]
  apply decide_eq_decide.2
  simp [partFits, setParts, setPart, zeroIns, @eq_comm Int 0, @eq_comm (List Int) []]
theorem fm_kk {op : Int} (a b k : Int) (l : List Int) (hk : I64 k) (h : pat op = some (some [Part.kk])) : formedB ⟨op, a, b, k, l⟩ = decide ((a = 0) ∧ (b = 0) ∧ (l = [])) := by
  rw [formed_lit (x := ⟨op, a, b, k, l⟩) h]
  apply decide_eq_decide.2
  unfold I64 at hk
  simp only [List.mem_singleton, forall_eq, partFits, setParts, List.foldl, setPart, zeroIns, Ins.mk.injEq, true_and, @eq_comm Int 0, @eq_comm (List Int) []]
  exact ⟨fun h => h.2, fun h => ⟨hk, h⟩⟩
theorem fm_az {op : Int} (a b k : Int) (l : List Int) (h : pat op = some (some [Part.a, .z])) : formedB ⟨op, a, b, k, l⟩ = decide ((fitsU a) ∧ (b = 0) ∧ (k = 0) ∧ (l = [])) := by
  rw [formed_lit (x := ⟨op, a, b, k, l⟩) h]
  apply decide_eq_decide.2
  simp [partFits, setParts, setPart, zeroIns, @eq_comm Int 0, @eq_comm (List Int) []]
theorem formed_any (v : Value) (x : Ins) (w : World) (hv : InsV w v x) (hw : wide x) (hl : x.l.length ≤ 100) : Calls Try.prog 13 #[v] w (Tells w (formedB x)) := by
  obtain ⟨A, c, rfl, hi, hlc, hn⟩ := hv
  obtain ⟨op, a, b, k, l⟩ := x
  obtain ⟨i0, i1, i2, i3, i4⟩ := hw
  simp only at hi hlc hl i0 i1 i2 i3 i4 ⊢
  have HF := Lib.hid (fun W => form_any op W)
  have HN := fun n W => inum_any n W
  have HB := fun W => blkOk_any a W i1
  have HK := fun W => small_any k W
  have HL := fun W (hW : Below w.heap.size w W) => labsOk_any A l c w.heap.size W (hi.below hW) hl
  unfold formN at HF
  cases hp : pat op with
  | none =>
    rw [hp] at HF
    rw [show formedB ⟨op, a, b, k, l⟩ = false from by unfold formedB; simp only; rw [hp]]
    exact fmd_none_None w op a b k A l.length c HF
  | some o =>
    cases o with
    | none =>
      rw [hp] at HF
      rw [show formedB ⟨op, a, b, k, l⟩ = false from by unfold formedB; simp only; rw [hp]]
      exact fmd_wide_None w op a b k A l.length c HF
    | some qs =>
      rw [hp] at HF
      have hm := pat_mem op qs hp
      simp only [List.mem_cons, List.not_mem_nil, or_false] at hm
      rcases hm with rfl | rfl | rfl | rfl | rfl | rfl | rfl | rfl | rfl | rfl
      · rw [fm_bare a b k l hp]
        by_cases c0 : a = 0
        rotate_left
        · rw [decide_eq_false (fun h => c0 h.1)]
          exact fmd_bare_0 w op a b k A l.length c HF (by simp; first | exact c0 | omega | (intro h; exact c0 h))
        by_cases c1 : b = 0
        rotate_left
        · rw [decide_eq_false (fun h => c1 h.2.1)]
          exact fmd_bare_1 w op a b k A l.length c HF (by simp [c0]) (by simp; first | exact c1 | omega | (intro h; exact c1 h))
        by_cases c2 : k = 0
        rotate_left
        · rw [decide_eq_false (fun h => c2 h.2.2.1)]
          exact fmd_bare_2 w op a b k A l.length c HF (by simp [c0]) (by simp [c1]) (by simp; first | exact c2 | omega | (intro h; exact c2 h))
        by_cases c3 : l = []
        rotate_left
        · rw [decide_eq_false (fun h => c3 h.2.2.2)]
          exact fmd_bare_3 w op a b k A l.length c HF (by simp [c0]) (by simp [c1]) (by simp [c2]) (by simp; first | exact c3 | omega | (intro h; exact c3 h))
        rw [decide_eq_true ⟨c0, c1, c2, c3⟩]
        exact fmd_bare_ok w op a b k A l.length c HF (by simp [c0]) (by simp [c1]) (by simp [c2]) (by simp [c3])
      · rw [fm_t a b k l hp]
        by_cases c0 : rightBlock a = true
        rotate_left
        · rw [decide_eq_false (fun h => c0 h.1)]
          exact fmd_t_0 w op a b k A l.length c HF (Lib.hid (fun W => by have := HB W; rwa [Bool.eq_false_iff.2 c0] at this))
        by_cases c1 : b = 0
        rotate_left
        · rw [decide_eq_false (fun h => c1 h.2.1)]
          exact fmd_t_1 w op a b k A l.length c HF (Lib.hid (fun W => by have := HB W; rwa [c0] at this)) (by simp; first | exact c1 | omega | (intro h; exact c1 h))
        by_cases c2 : k = 0
        rotate_left
        · rw [decide_eq_false (fun h => c2 h.2.2.1)]
          exact fmd_t_2 w op a b k A l.length c HF (Lib.hid (fun W => by have := HB W; rwa [c0] at this)) (by simp [c1]) (by simp; first | exact c2 | omega | (intro h; exact c2 h))
        by_cases c3 : l = []
        rotate_left
        · rw [decide_eq_false (fun h => c3 h.2.2.2)]
          exact fmd_t_3 w op a b k A l.length c HF (Lib.hid (fun W => by have := HB W; rwa [c0] at this)) (by simp [c1]) (by simp [c2]) (by simp; first | exact c3 | omega | (intro h; exact c3 h))
        rw [decide_eq_true ⟨c0, c1, c2, c3⟩]
        exact fmd_t_ok w op a b k A l.length c HF (Lib.hid (fun W => by have := HB W; rwa [c0] at this)) (by simp [c1]) (by simp [c2]) (by simp [c3])
      · rw [fm_a a b k l hp]
        by_cases c0 : fitsU a
        rotate_left
        · rw [decide_eq_false (fun h => c0 h.1)]
          exact fmd_a_0 w op a b k A l.length c HF (Lib.hid (fun W => by have := HN a W; rwa [decide_eq_false c0] at this))
        by_cases c1 : b = 0
        rotate_left
        · rw [decide_eq_false (fun h => c1 h.2.1)]
          exact fmd_a_1 w op a b k A l.length c HF (Lib.hid (fun W => by have := HN a W; rwa [decide_eq_true c0] at this)) (by simp; first | exact c1 | omega | (intro h; exact c1 h))
        by_cases c2 : k = 0
        rotate_left
        · rw [decide_eq_false (fun h => c2 h.2.2.1)]
          exact fmd_a_2 w op a b k A l.length c HF (Lib.hid (fun W => by have := HN a W; rwa [decide_eq_true c0] at this)) (by simp [c1]) (by simp; first | exact c2 | omega | (intro h; exact c2 h))
        by_cases c3 : l = []
        rotate_left
        · rw [decide_eq_false (fun h => c3 h.2.2.2)]
          exact fmd_a_3 w op a b k A l.length c HF (Lib.hid (fun W => by have := HN a W; rwa [decide_eq_true c0] at this)) (by simp [c1]) (by simp [c2]) (by simp; first | exact c3 | omega | (intro h; exact c3 h))
        rw [decide_eq_true ⟨c0, c1, c2, c3⟩]
        exact fmd_a_ok w op a b k A l.length c HF (Lib.hid (fun W => by have := HN a W; rwa [decide_eq_true c0] at this)) (by simp [c1]) (by simp [c2]) (by simp [c3])
      · rw [fm_la a b k l hp]
        by_cases c0 : fitsU a
        rotate_left
        · rw [decide_eq_false (fun h => c0 h.1)]
          exact fmd_la_0 w op a b k A l.length c HF (Lib.hid (fun W => by have := HN a W; rwa [decide_eq_false c0] at this))
        by_cases c1 : labsB l = true
        rotate_left
        · rw [decide_eq_false (fun h => c1 h.2.1)]
          exact fmd_la_1 w op a b k A l.length c HF (Lib.hid (fun W => by have := HN a W; rwa [decide_eq_true c0] at this)) (Lib.hid (fun W hW => by have := HL W hW; rwa [Bool.eq_false_iff.2 c1] at this))
        by_cases c2 : b = 0
        rotate_left
        · rw [decide_eq_false (fun h => c2 h.2.2.1)]
          exact fmd_la_2 w op a b k A l.length c HF (Lib.hid (fun W => by have := HN a W; rwa [decide_eq_true c0] at this)) (Lib.hid (fun W hW => by have := HL W hW; rwa [c1] at this)) (by simp; first | exact c2 | omega | (intro h; exact c2 h))
        by_cases c3 : k = 0
        rotate_left
        · rw [decide_eq_false (fun h => c3 h.2.2.2)]
          exact fmd_la_3 w op a b k A l.length c HF (Lib.hid (fun W => by have := HN a W; rwa [decide_eq_true c0] at this)) (Lib.hid (fun W hW => by have := HL W hW; rwa [c1] at this)) (by simp [c2]) (by simp; first | exact c3 | omega | (intro h; exact c3 h))
        rw [decide_eq_true ⟨c0, c1, c2, c3⟩]
        exact fmd_la_ok w op a b k A l.length c HF (Lib.hid (fun W => by have := HN a W; rwa [decide_eq_true c0] at this)) (Lib.hid (fun W hW => by have := HL W hW; rwa [c1] at this)) (by simp [c2]) (by simp [c3])
      · rw [fm_ab a b k l hp]
        by_cases c0 : fitsU a
        rotate_left
        · rw [decide_eq_false (fun h => c0 h.1)]
          exact fmd_ab_0 w op a b k A l.length c HF (Lib.hid (fun W => by have := HN a W; rwa [decide_eq_false c0] at this))
        by_cases c1 : fitsU b
        rotate_left
        · rw [decide_eq_false (fun h => c1 h.2.1)]
          exact fmd_ab_1 w op a b k A l.length c HF (Lib.hid (fun W => by have := HN a W; rwa [decide_eq_true c0] at this)) (Lib.hid (fun W => by have := HN b W; rwa [decide_eq_false c1] at this))
        by_cases c2 : k = 0
        rotate_left
        · rw [decide_eq_false (fun h => c2 h.2.2.1)]
          exact fmd_ab_2 w op a b k A l.length c HF (Lib.hid (fun W => by have := HN a W; rwa [decide_eq_true c0] at this)) (Lib.hid (fun W => by have := HN b W; rwa [decide_eq_true c1] at this)) (by simp; first | exact c2 | omega | (intro h; exact c2 h))
        by_cases c3 : l = []
        rotate_left
        · rw [decide_eq_false (fun h => c3 h.2.2.2)]
          exact fmd_ab_3 w op a b k A l.length c HF (Lib.hid (fun W => by have := HN a W; rwa [decide_eq_true c0] at this)) (Lib.hid (fun W => by have := HN b W; rwa [decide_eq_true c1] at this)) (by simp [c2]) (by simp; first | exact c3 | omega | (intro h; exact c3 h))
        rw [decide_eq_true ⟨c0, c1, c2, c3⟩]
        exact fmd_ab_ok w op a b k A l.length c HF (Lib.hid (fun W => by have := HN a W; rwa [decide_eq_true c0] at this)) (Lib.hid (fun W => by have := HN b W; rwa [decide_eq_true c1] at this)) (by simp [c2]) (by simp [c3])
      · rw [fm_z a b k l hp]
        by_cases c0 : a = 0
        rotate_left
        · rw [decide_eq_false (fun h => c0 h.1)]
          exact fmd_z_0 w op a b k A l.length c HF (by simp; first | exact c0 | omega | (intro h; exact c0 h))
        by_cases c1 : b = 0
        rotate_left
        · rw [decide_eq_false (fun h => c1 h.2.1)]
          exact fmd_z_1 w op a b k A l.length c HF (by simp [c0]) (by simp; first | exact c1 | omega | (intro h; exact c1 h))
        by_cases c2 : k = 0
        rotate_left
        · rw [decide_eq_false (fun h => c2 h.2.2.1)]
          exact fmd_z_2 w op a b k A l.length c HF (by simp [c0]) (by simp [c1]) (by simp; first | exact c2 | omega | (intro h; exact c2 h))
        by_cases c3 : l = []
        rotate_left
        · rw [decide_eq_false (fun h => c3 h.2.2.2)]
          exact fmd_z_3 w op a b k A l.length c HF (by simp [c0]) (by simp [c1]) (by simp [c2]) (by simp; first | exact c3 | omega | (intro h; exact c3 h))
        rw [decide_eq_true ⟨c0, c1, c2, c3⟩]
        exact fmd_z_ok w op a b k A l.length c HF (by simp [c0]) (by simp [c1]) (by simp [c2]) (by simp [c3])
      · rw [fm_zz a b k l hp]
        by_cases c0 : a = 0
        rotate_left
        · rw [decide_eq_false (fun h => c0 h.1)]
          exact fmd_zz_0 w op a b k A l.length c HF (by simp; first | exact c0 | omega | (intro h; exact c0 h))
        by_cases c1 : b = 0
        rotate_left
        · rw [decide_eq_false (fun h => c1 h.2.1)]
          exact fmd_zz_1 w op a b k A l.length c HF (by simp [c0]) (by simp; first | exact c1 | omega | (intro h; exact c1 h))
        by_cases c2 : k = 0
        rotate_left
        · rw [decide_eq_false (fun h => c2 h.2.2.1)]
          exact fmd_zz_2 w op a b k A l.length c HF (by simp [c0]) (by simp [c1]) (by simp; first | exact c2 | omega | (intro h; exact c2 h))
        by_cases c3 : l = []
        rotate_left
        · rw [decide_eq_false (fun h => c3 h.2.2.2)]
          exact fmd_zz_3 w op a b k A l.length c HF (by simp [c0]) (by simp [c1]) (by simp [c2]) (by simp; first | exact c3 | omega | (intro h; exact c3 h))
        rw [decide_eq_true ⟨c0, c1, c2, c3⟩]
        exact fmd_zz_ok w op a b k A l.length c HF (by simp [c0]) (by simp [c1]) (by simp [c2]) (by simp [c3])
      · rw [fm_k a b k l hp]
        by_cases c0 : -2147483648 ≤ k ∧ k ≤ 2147483647
        rotate_left
        · rw [decide_eq_false (fun h => c0 h.1)]
          exact fmd_k_0 w op a b k A l.length c HF (Lib.hid (fun W => by have := HK W; rwa [decide_eq_false c0] at this))
        by_cases c1 : a = 0
        rotate_left
        · rw [decide_eq_false (fun h => c1 h.2.1)]
          exact fmd_k_1 w op a b k A l.length c HF (Lib.hid (fun W => by have := HK W; rwa [decide_eq_true c0] at this)) (by simp; first | exact c1 | omega | (intro h; exact c1 h))
        by_cases c2 : b = 0
        rotate_left
        · rw [decide_eq_false (fun h => c2 h.2.2.1)]
          exact fmd_k_2 w op a b k A l.length c HF (Lib.hid (fun W => by have := HK W; rwa [decide_eq_true c0] at this)) (by simp [c1]) (by simp; first | exact c2 | omega | (intro h; exact c2 h))
        by_cases c3 : l = []
        rotate_left
        · rw [decide_eq_false (fun h => c3 h.2.2.2)]
          exact fmd_k_3 w op a b k A l.length c HF (Lib.hid (fun W => by have := HK W; rwa [decide_eq_true c0] at this)) (by simp [c1]) (by simp [c2]) (by simp; first | exact c3 | omega | (intro h; exact c3 h))
        rw [decide_eq_true ⟨c0, c1, c2, c3⟩]
        exact fmd_k_ok w op a b k A l.length c HF (Lib.hid (fun W => by have := HK W; rwa [decide_eq_true c0] at this)) (by simp [c1]) (by simp [c2]) (by simp [c3])
      · rw [fm_kk a b k l i3 hp]
        by_cases c0 : a = 0
        rotate_left
        · rw [decide_eq_false (fun h => c0 h.1)]
          exact fmd_kk_0 w op a b k A l.length c HF (by simp; first | exact c0 | omega | (intro h; exact c0 h))
        by_cases c1 : b = 0
        rotate_left
        · rw [decide_eq_false (fun h => c1 h.2.1)]
          exact fmd_kk_1 w op a b k A l.length c HF (by simp [c0]) (by simp; first | exact c1 | omega | (intro h; exact c1 h))
        by_cases c2 : l = []
        rotate_left
        · rw [decide_eq_false (fun h => c2 h.2.2)]
          exact fmd_kk_2 w op a b k A l.length c HF (by simp [c0]) (by simp [c1]) (by simp; first | exact c2 | omega | (intro h; exact c2 h))
        rw [decide_eq_true ⟨c0, c1, c2⟩]
        exact fmd_kk_ok w op a b k A l.length c HF (by simp [c0]) (by simp [c1]) (by simp [c2])
      · rw [fm_az a b k l hp]
        by_cases c0 : fitsU a
        rotate_left
        · rw [decide_eq_false (fun h => c0 h.1)]
          exact fmd_az_0 w op a b k A l.length c HF (Lib.hid (fun W => by have := HN a W; rwa [decide_eq_false c0] at this))
        by_cases c1 : b = 0
        rotate_left
        · rw [decide_eq_false (fun h => c1 h.2.1)]
          exact fmd_az_1 w op a b k A l.length c HF (Lib.hid (fun W => by have := HN a W; rwa [decide_eq_true c0] at this)) (by simp; first | exact c1 | omega | (intro h; exact c1 h))
        by_cases c2 : k = 0
        rotate_left
        · rw [decide_eq_false (fun h => c2 h.2.2.1)]
          exact fmd_az_2 w op a b k A l.length c HF (Lib.hid (fun W => by have := HN a W; rwa [decide_eq_true c0] at this)) (by simp [c1]) (by simp; first | exact c2 | omega | (intro h; exact c2 h))
        by_cases c3 : l = []
        rotate_left
        · rw [decide_eq_false (fun h => c3 h.2.2.2)]
          exact fmd_az_3 w op a b k A l.length c HF (Lib.hid (fun W => by have := HN a W; rwa [decide_eq_true c0] at this)) (by simp [c1]) (by simp [c2]) (by simp; first | exact c3 | omega | (intro h; exact c3 h))
        rw [decide_eq_true ⟨c0, c1, c2, c3⟩]
        exact fmd_az_ok w op a b k A l.length c HF (Lib.hid (fun W => by have := HN a W; rwa [decide_eq_true c0] at this)) (by simp [c1]) (by simp [c2]) (by simp [c3])
end Go.Proofs.Ytdipgokbfjbgfaa.Ins
namespace Go.Proofs.Ytdipgokbfjbgfaa.Ins
open Go.RowKit Leb Typ

theorem closed_take (x : Ins) (l : List Ins) (n : Nat) (st : List Nat) (hn : n ≤ 2000) (hf : formedB x = true) :
    ((takeRes x.op st n).1 ≠ 0 → closedB n st (x :: l) = false) ∧
    ((takeRes x.op st n).1 = 0 → n < 2000 ∧ ((takeRes x.op st n).2.2 = true → closedB n st (x :: l) = decide (l = [])) ∧
      ((takeRes x.op st n).2.2 = false → closedB n st (x :: l) = closedB (n + 1) (takeRes x.op st n).2.1 l)) := by
  unfold takeRes
  simp only [closedB, hf, Bool.true_and]
  by_cases h2 : n = 2000
  · rw [if_pos h2]
    refine ⟨fun _ => ?_, fun h => absurd h (by simp)⟩
    rw [decide_eq_false (by omega), Bool.false_and]
  · rw [if_neg h2, decide_eq_true (by omega), Bool.true_and]
    generalize blocks x.op st = g
    obtain ⟨e, o⟩ := g
    cases o with
    | none =>
      simp only
      by_cases he : e = 0
      · subst he
        simp only [if_true]
        refine ⟨fun h => absurd rfl h, fun _ => ⟨by omega, fun _ => ?_, fun h => absurd h (by simp)⟩⟩
        cases l <;> simp
      · simp only [he, if_false]
        exact ⟨fun _ => by simp, fun h => h.elim⟩
    | some st' =>
      simp only
      exact ⟨fun h => absurd rfl h, fun _ => ⟨by omega, fun h => absurd h (by simp), fun _ => trivial⟩⟩
theorem Bk.kept {W W' : World} {k n : Nat} {st : List Nat} {b : Bool} {v : Value} (h : Bk W k st n b v) (hb : Below W.heap.size W W') : Bk W' k st n b v := by
  have hh := hb.block k h.lt
  have C : ∀ i, W'.cell? ⟨k, i, none⟩ = W.cell? ⟨k, i, none⟩ := fun i => World.cell?_of_block hh
  have F : ∀ i, W'.frozen? ⟨k, i, none⟩ = W.frozen? ⟨k, i, none⟩ := fun i => World.frozen?_of_block hh
  exact ⟨Nat.lt_of_lt_of_le h.lt hb.size, (C _).trans h.c0, (C _).trans h.c1, (C _).trans h.c2, (F _).trans h.z0, (F _).trans h.z1, (F _).trans h.z2, rowKeep h.own fun b e => hb.block b (World.ownsRow.lt h.own b e).2⟩
theorem Bk.under {w W W' : World} {k n : Nat} {st : List Nat} {b : Bool} {v v' : Value} (h : Bk W k st n b v) (hb : Below w.heap.size w W) (hk : w.heap.size ≤ k) (hkept : Kept W W' k v v') : Below w.heap.size w W' :=
  ⟨hkept.os.trans hb.os, hkept.tape.trans hb.tape, hkept.output.trans hb.output, Nat.le_trans hb.size hkept.size, fun i hi => (hkept.block i (Nat.lt_of_lt_of_le hi hb.size) (by omega) (fun e => by
    have := (World.ownsRow.lt h.own i e).1
    omega)).trans (hb.block i hi)⟩
theorem bk_of (w : World) (t : TypeId) : Bk (w.alloc (.cells #[.slice none 0 0, .int .i64 0, .bool false] t)) w.heap.size [] 0 false (.slice none 0 0) := by
  have hr := (MapKept.heap_alloc w (.cells #[.slice none 0 0, .int .i64 0, .bool false] t)).1
  refine ⟨by simp, ?_, ?_, ?_, ?_, ?_, ?_, World.ownsRow_nil _ _ _ _⟩
  all_goals first
    | (simp only [World.cell?, hr]; rfl)
    | (simp only [World.frozen?, hr]; rfl)
theorem bang_get (xs : List Ins) (j : Nat) (h : j < xs.length) : xs.drop j = xs[j] :: xs.drop (j + 1) := List.drop_eq_getElem_cons h
set_option maxHeartbeats 4000000 in
set_option maxRecDepth 100000 in
theorem closed_any (A : Option Addr) (xs : List Ins) (c : Nat) (w : World) (hs : Sli w A c xs) (hsh : short xs) : Calls Try.prog 19 #[.slice A xs.length c] w (Tells w (shutB xs)) := by
  have HS := Lib.hid hs
  have HSH := Lib.hid hsh
  have HB0 := Lib.hid (bk_of w 65)
  have HW0 : Hid (Below w.heap.size w (w.alloc (.cells #[.slice none 0 0, .int .i64 0, .bool false] 65))) := Lib.hid ((Below.refl _ _).alloc (Nat.le_refl _) _)
  have hlen : (xs.length : Int) ≤ 2100 := by have := hsh.1; omega
  have HR : Hid (closedB 0 [] (xs.drop 0) = shutB xs) := Lib.hid rfl
  generalize shutB xs = R at *
  clear hs hsh
  go_enter Try.func19, Try.ntmps19
  go_wp2_with fail
  go_loopw [8] (fun x8 wr => ∃ (j : Nat) (st : List Nat) (ended : Bool) (v : Value), j ≤ xs.length ∧ x8 = .int .i64 (j : Int) ∧ Bk wr w.heap.size st j ended v ∧ Hid (Below w.heap.size w wr) ∧ Hid (j ≤ 2000 ∧ st.length ≤ 64 ∧ (ended = false → closedB j st (xs.drop j) = R) ∧ (ended = true → R = decide (xs.drop j = [])))) (fun x8 _ => xs.length - (intOf x8).toNat)
  case atStart => exact ⟨0, [], false, _, Nat.zero_le _, by go_num, HB0.out, HW0, Lib.hid ⟨by omega, by simp, fun _ => HR.out, fun h => absurd h (by simp)⟩⟩
  case round =>
    obtain ⟨j, st, ended, v, hj, rfl, hbk, HBL, HI⟩ := hrel
    clear HB0 HW0 HR
    by_cases hjl : j < xs.length
    · have hji : (j : Int) < (xs.length : Int) := by omega
      obtain ⟨b, off, rfl, hb, hc⟩ := HS.out.ins (by omega)
      have hat := hc j hjl
      obtain ⟨LA, lc, q0, q1, q2, q3, q4, q5, q6, q7⟩ := hat
      have hx := HSH.out.2 _ (List.getElem_mem hjl)
      obtain ⟨i1, i2, i3, i4⟩ := HI.out
      rw [bang_get xs j hjl] at i3 i4
      have C : ∀ i, wr.cell? ⟨b, i, none⟩ = w.cell? ⟨b, i, none⟩ := fun i => HBL.out.cell (p := ⟨b, i, none⟩) hb
      have d0 := (C _).trans q0
      have d1 := (C _).trans q1
      have d2 := (C _).trans q2
      have d3 := (C _).trans q3
      have d4 := (C _).trans q4
      have HFM : Hid (∀ W, Below w.heap.size w W → Calls Try.prog 13 #[.agg #[.int .i64 xs[j].op, .int .i64 xs[j].a, .int .i64 xs[j].b, .int .i64 xs[j].k, .slice LA xs[j].l.length lc]] W (Tells W (formedB xs[j]))) := Lib.hid fun W hW =>
        formed_any _ xs[j] W (InsV.below ⟨LA, lc, rfl, q5, q6, q7⟩ hW) hx.1 hx.2
      have hk1 := closed_take xs[j] (xs.drop (j + 1)) j st i1
      have HNX : Hid (xs.drop (j + 1) = xs.drop (j + 1)) := Lib.hid rfl
      have hc2 := hbk.c2
      have HBK := Lib.hid hbk
      have hbl1 : Below wr.heap.size wr (wr.alloc (.cells #[.int .i64 xs[j].op, .int .i64 xs[j].a, .int .i64 xs[j].b, .int .i64 xs[j].k, .slice LA xs[j].l.length lc] 25)) := (Below.refl _ _).alloc (Nat.le_refl _) _
      have HL1 := Lib.hid (HBL.out.trans (hbl1.mono HBL.out.size))
      have HB1 := Lib.hid (hbk.kept hbl1)
      clear C q0 q1 q2 q3 q4 q5 q6 q7 hx hc hbk hbl1
      generalize xs[j].l.length = ln at *
      generalize hxx : xs[j] = x at *
      clear hxx
      cases ended with
      | true =>
        have HE : Hid (R = false) := Lib.hid (by rw [i4 rfl]; simp)
        clear i1 i2 i3 i4 HI HFM hk1 HSH HS
        have hc2' := HB1.out.c2
        go_wp2
        go_ret
        rw [HE.out]
        exact ⟨rfl, HL1.out⟩
      | false =>
        have hj3 := i3 rfl
        by_cases hf : formedB x = true
        · obtain ⟨j1, j2⟩ := hk1 hf
          rw [hj3] at j1 j2
          rw [hf] at HFM
          have hT := fun W (hW : Bk W w.heap.size st j false v) => take_any hW x.op i1 i2
          have hts := takeRes_sz x.op st j i2
          generalize takeRes x.op st j = tk at *
          obtain ⟨te, st', ended'⟩ := tk
          simp only at j1 j2 hT hts
          have HT := Lib.hid hT
          have HK := Lib.hid (And.intro j1 (And.intro j2 hts.1))
          clear i1 i2 i3 i4 hk1 hf hj3 hT hts j1 j2 HI HSH HS
          have hc2' := HB1.out.c2
          go_wp2_with fail
          refine (HFM.out _ HL1.out).mono ?_
          rintro en w2 ⟨rfl, hb2⟩
          have HB2 := Lib.hid (HB1.out.kept hb2)
          have HL2 := Lib.hid (HL1.out.trans (hb2.mono HL1.out.size))
          have e0 : w2.cell? ⟨wr.heap.size, 0, none⟩ = some (.int .i64 x.op) := (hb2.cell (p := ⟨wr.heap.size, 0, none⟩) (by simp)).trans (by simp)
          clear HFM HB1 HL1 hb2 hc2' hc2 d0 d1 d2 d3 d4
          go_wp2_with fail
          refine (HT.out _ HB2.out).mono ?_
          rintro en w3 ⟨v', rfl, hkept, hp⟩
          have HL3 := Lib.hid (HB2.out.under HL2.out (Nat.le_refl _) hkept)
          by_cases hte : te = 0
          · subst hte
            obtain ⟨k1, k2, k3⟩ := HK.out.2.1 rfl
            have HB3 := Lib.hid (hp rfl)
            have HKK := Lib.hid (And.intro k1 (And.intro k2 (And.intro k3 HK.out.2.2)))
            clear hkept hp HT HB2 HL2 k1 k2 k3 HK
            go_wp2
            go_roundw
            case rel => exact ⟨j + 1, st', ended', v', by omega, by go_num, HB3.out, HL3, Lib.hid ⟨HKK.out.1, HKK.out.2.2.2, fun h => (HKK.out.2.2.1 h).symm, fun h => HKK.out.2.1 h⟩⟩
            case measure => simp [intOf]; omega
          · have HE := Lib.hid (HK.out.1 hte)
            have hne : ((te : Int) != 0) = true := by simp; omega
            clear hkept hp HT HB2 HL2 HK
            go_wp2
            go_ret
            rw [HE.out]
            exact ⟨rfl, HL3.out⟩
        · have hf' : formedB x = false := by simpa using hf
          have HE : Hid (R = false) := Lib.hid (by rw [← hj3]; simp [closedB, hf'])
          rw [hf'] at HFM
          clear i1 i2 i3 i4 HI hk1 HSH hf hf' hj3 HS
          have hc2' := HB1.out.c2
          go_wp2_with fail
          refine (HFM.out _ HL1.out).mono ?_
          rintro en w2 ⟨rfl, hb2⟩
          have HL2 := Lib.hid (HL1.out.trans (hb2.mono HL1.out.size))
          clear HFM HB1 HL1 hb2 hc2' hc2 d0 d1 d2 d3 d4
          go_wp2
          go_ret
          rw [HE.out]
          exact ⟨rfl, HL2.out⟩
    · obtain rfl : j = xs.length := by omega
      have hji : ¬ (xs.length : Int) < (xs.length : Int) := by omega
      have hc2 := hbk.c2
      have HE : Hid (R = ended) := Lib.hid (by
        obtain ⟨_, _, i3, i4⟩ := HI.out
        rw [List.drop_length] at i3 i4
        cases ended with
        | true => rw [i4 rfl]; rfl
        | false => rw [← i3 rfl]; rfl)
      clear HI hbk HS HSH
      go_wp2
      go_ret
      rw [HE.out]
      exact ⟨rfl, HBL.out⟩
end Go.Proofs.Ytdipgokbfjbgfaa.Ins
namespace Go.Proofs.Ytdipgokbfjbgfaa.Ins
open Go.RowKit Leb Typ

section
variable (w : World) (A : Option Addr) (len c : Nat) (op a b k : Int) (LA : Option Addr) (ln lc : Nat)
theorem put_no (HF : Hid (∀ W, Below w.heap.size w W → Calls Try.prog 13 #[.agg #[.int .i64 op, .int .i64 a, .int .i64 b, .int .i64 k, .slice LA ln lc]] W (Tells W false))) :
    Calls Try.prog 11 #[.slice A len c, .agg #[.int .i64 op, .int .i64 a, .int .i64 b, .int .i64 k, .slice LA ln lc]] w (PutIs w [] 0 2) := by
  have HB := Lib.hid ((b5_of (Below.refl w.heap.size w) op a b k LA ln lc 25).below)
  go_enter Try.func11, Try.ntmps11
  go_wp2_with fail
  refine (HF.out _ HB.out).mono ?_
  rintro en w1 ⟨rfl, hb1⟩
  have HB1 := Lib.hid (HB.out.trans (hb1.mono HB.out.size))
  clear HF HB hb1
  go_wp2
  go_ret2
  exact putIs_nil HB1.out
set_option maxHeartbeats 4000000 in
set_option maxRecDepth 100000 in
theorem put_ok (l bs : List Nat) (kb kk : Nat) (hl : l.length = len) (hlt : ∀ y ∈ l, y < 256) (hbs : bs.length = kb) (h0 : 0 < kb) (hbl : kb ≤ 10000) (hll : len ≤ 1000) (hkk : len + kb = kk)
    (HF : Hid (∀ W, Below w.heap.size w W → Calls Try.prog 13 #[.agg #[.int .i64 op, .int .i64 a, .int .i64 b, .int .i64 k, .slice LA ln lc]] W (Tells W true)))
    (HCL : Hid (∀ W, Below w.heap.size w W → Calls Try.prog 25 #[.slice A len c] W (GivesB W l len)))
    (HBO : Hid (∀ W, Below w.heap.size w W → Calls Try.prog 26 #[.agg #[.int .i64 op, .int .i64 a, .int .i64 b, .int .i64 k, .slice LA ln lc]] W (GivesB W bs kb))) :
    Calls Try.prog 11 #[.slice A len c, .agg #[.int .i64 op, .int .i64 a, .int .i64 b, .int .i64 k, .slice LA ln lc]] w (PutIs w (l ++ bs) kk 0) := by
  have HB := Lib.hid (b5_of (Below.refl w.heap.size w) op a b k LA ln lc 25)
  have HLT := Lib.hid hlt
  have HL := Lib.hid hl
  have HBS := Lib.hid hbs
  have HKK := Lib.hid hkk
  clear hl hlt hbs hkk
  go_enter Try.func11, Try.ntmps11
  go_wp2_with fail
  refine (HF.out _ HB.out.below).mono ?_
  rintro en w1 ⟨rfl, hb1⟩
  have HB1 := Lib.hid (HB.out.keep hb1)
  clear HF HB hb1
  obtain ⟨hbw, hz, d0, d1, d2, d3, d4⟩ := HB1.out
  have hS := And.intro d0 (And.intro d1 (And.intro d2 (And.intro d3 d4)))
  go_wp2_with fail
  refine wp_region_held_drew (S := fun W => W.cell? ⟨w.heap.size, 0, none⟩ = some (.int .i64 op) ∧ W.cell? ⟨w.heap.size, 1, none⟩ = some (.int .i64 a) ∧ W.cell? ⟨w.heap.size, 2, none⟩ = some (.int .i64 b) ∧ W.cell? ⟨w.heap.size, 3, none⟩ = some (.int .i64 k) ∧ W.cell? ⟨w.heap.size, 4, none⟩ = some (.slice LA ln lc)) (by kernel_rfl) hS (fun _ => ?_)
  clear d0 d1 d2 d3 d4
  refine wpAnyH_take (i := 0) (oi := { dst := some 9, op := .move (.tmp 0), type := 22, pos := "instr.go:77", after := #[], guard := none }) (v := ?_) rfl (by kernel_rfl) (by kernel_rfl) (by kernel_rfl) (fun _ _ _ h => h) (Or.inl ⟨by rfl, ?_⟩) hS ?_
  rotate_left
  · (intro w' ⟨d0, d1, d2, d3, d4⟩; go_simp) <;> with_reducible rfl
  try simp only [Act.put, List.setIfInBounds_toArray, List.set_cons_zero, List.set_cons_succ]
  refine wpAnyH_take (i := 2) (oi := { dst := some 11, op := .load 25 (.tmp 3), type := 25, pos := "instr.go:77", after := #[], guard := none }) (v := ?_) rfl (by kernel_rfl) (by kernel_rfl) (by kernel_rfl) (fun _ _ _ h => h) (Or.inl ⟨by rfl, ?_⟩) hS ?_
  rotate_left
  · (intro w' ⟨d0, d1, d2, d3, d4⟩; go_simp) <;> with_reducible rfl
  try simp only [Act.put, List.setIfInBounds_toArray, List.set_cons_zero, List.set_cons_succ]
  refine wpAnyH_ready (rs := [1]) (by kernel_rfl) (by simp) ?_
  refine AllReadyH.cons (o := { dst := some 10, op := .call { callee := .value (.func 25), args := #[.tmp 9], argTypes := #[22] }, type := 22, pos := "instr.go:77", after := #[{ on := 0, ground := .data }], guard := none }) rfl (fun K hK => ?_) AllReadyH.nil
  go_simp
  refine (HCL.out _ (hbw.drew)).mono ?_
  rintro en w2 ⟨A2, c2, rfl, hown2, hB2, hn2, hc2, hb2⟩
  have hb12 : Below w1.heap.size w1 w2 := (Below.refl _ _).drew.trans hb2
  have HB2 := Lib.hid (HB1.out.keep hb12)
  have HO2 := Lib.hid (own_from hown2 (show w.heap.size + 1 ≤ _ from hz))
  have hS2 := And.intro HB2.out.c0 (And.intro HB2.out.c1 (And.intro HB2.out.c2 (And.intro HB2.out.c3 HB2.out.c4)))
  clear HCL hown2 hb2 hb12 HB1 hS hB2
  go_wp2_with fail
  refine hK.out _ _ hS2 (fun _ => ?_)
  clear hK K
  try simp only [Act.put, List.setIfInBounds_toArray, List.set_cons_zero, List.set_cons_succ]
  refine wpAnyH_ready (rs := [3]) (by kernel_rfl) (by simp) ?_
  refine AllReadyH.cons (o := { dst := some 12, op := .call { callee := .value (.func 26), args := #[.tmp 11], argTypes := #[25] }, type := 22, pos := "instr.go:77", after := #[{ on := 2, ground := .data }, { on := 1, ground := .chain }], guard := none }) rfl (fun K hK => ?_) AllReadyH.nil
  go_simp
  refine (HBO.out _ HB2.out.below).mono ?_
  rintro en w3 ⟨A3, c3, rfl, hown3, hB3, hn3, hc3, hb3⟩
  have HB3 := Lib.hid (HB2.out.keep hb3)
  have hown23 := HO2.out.keep hb3 HO2.out.lt
  have hS3 := And.intro HB3.out.c0 (And.intro HB3.out.c1 (And.intro HB3.out.c2 (And.intro HB3.out.c3 HB3.out.c4)))
  clear HBO hown3 hb3 HB2 hS2 HO2
  go_wp2_with fail
  refine hK.out _ _ hS3 (fun _ => ?_)
  clear hK K
  try simp only [Act.put, List.setIfInBounds_toArray, List.set_cons_zero, List.set_cons_succ]
  refine wpAnyH_ready (rs := [4]) (by kernel_rfl) (by simp) ?_
  refine AllReadyH.cons (o := { dst := some 13, op := .call { callee := .builtin .append, args := #[.tmp 10, .tmp 12], argTypes := #[22, 22] }, type := 22, pos := "instr.go:77", after := #[{ on := 1, ground := .data }, { on := 3, ground := .data }, { on := 3, ground := .chain }], guard := none }) rfl (fun K hK => ?_) AllReadyH.nil
  refine app_step rfl (.tmp 10) (.tmp 12) rfl (w.heap.size + 1) _ l rfl hown23 HLT.out A3 bs kb c3 _ kk HBS.out rfl hB3 h0 (by rw [List.length_append, HL.out, HBS.out, HKK.out]) (by have := HKK.out; omega) HB3.out.size ?_
  intro A4 c4 w4 hown4 hB4 hc4 hn4 hb4
  have hS4 : (fun W => W.cell? ⟨w.heap.size, 0, none⟩ = some (.int .i64 op) ∧ W.cell? ⟨w.heap.size, 1, none⟩ = some (.int .i64 a) ∧ W.cell? ⟨w.heap.size, 2, none⟩ = some (.int .i64 b) ∧ W.cell? ⟨w.heap.size, 3, none⟩ = some (.int .i64 k) ∧ W.cell? ⟨w.heap.size, 4, none⟩ = some (.slice LA ln lc)) w4 := by
    have C : ∀ i, w4.cell? ⟨w.heap.size, i, none⟩ = w3.cell? ⟨w.heap.size, i, none⟩ := fun i => hb4.cell (p := ⟨w.heap.size, i, none⟩) (Nat.lt_succ_self _)
    exact ⟨(C _).trans hS3.1, (C _).trans hS3.2.1, (C _).trans hS3.2.2.1, (C _).trans hS3.2.2.2.1, (C _).trans hS3.2.2.2.2⟩
  refine hK.out _ _ hS4 (fun _ => ?_)
  clear hK K
  try simp only [Act.put, List.setIfInBounds_toArray, List.set_cons_zero, List.set_cons_succ]
  refine wpAnyH_take (i := 5) (oi := { dst := some 4, op := .assign (.tmp 13), type := 22, pos := "instr.go:77", after := #[{ on := 4, ground := .data }, { on := 4, ground := .chain }, { on := 0, ground := .phase }, { on := 1, ground := .phase }, { on := 2, ground := .phase }, { on := 3, ground := .phase }, { on := 4, ground := .phase }], guard := none }) (v := ?_) rfl (by kernel_rfl) (by kernel_rfl) (by kernel_rfl) (fun _ _ _ h => h) (Or.inl ⟨by rfl, ?_⟩) hS4 ?_
  rotate_left
  · (intro w' ⟨d0, d1, d2, d3, d4⟩; go_simp) <;> with_reducible rfl
  try simp only [Act.put, List.setIfInBounds_toArray, List.set_cons_zero, List.set_cons_succ]
  refine wpAnyH_take (i := 6) (oi := { dst := some 5, op := .assign (.const (.int .i64 0)), type := 30, pos := "instr.go:77", after := #[{ on := 5, ground := .chain }, { on := 0, ground := .phase }, { on := 1, ground := .phase }, { on := 2, ground := .phase }, { on := 3, ground := .phase }, { on := 4, ground := .phase }, { on := 5, ground := .phase }], guard := none }) (v := ?_) rfl (by kernel_rfl) (by kernel_rfl) (by kernel_rfl) (fun _ _ _ h => h) (Or.inl ⟨by rfl, ?_⟩) hS4 ?_
  rotate_left
  · (intro w' ⟨d0, d1, d2, d3, d4⟩; go_simp) <;> with_reducible rfl
  try simp only [Act.put, List.setIfInBounds_toArray, List.set_cons_zero, List.set_cons_succ]
  refine wpAnyH_done (by kernel_rfl) ?_ _
  go_wp2
  go_ret2
  exact putIs_of (own_from hown4 (Nat.le_succ _)) (Nat.le_refl _) hB4 hn4 hc4 (HB3.out.below.trans (hb4.mono (Nat.le_succ _)))
end
theorem part_len64 (x : Ins) (r : Part) (h : x.l.length ≤ 64) : (partBytes x r).length ≤ 650 := by
  cases r with
  | t => have := putS_length x.a; simp only [partBytes]; omega
  | a => have := (putU_len x.a.toNat).2; simp only [partBytes]; omega
  | b => have := (putU_len x.b.toNat).2; simp only [partBytes]; omega
  | l =>
    have h1 := (putU_len x.l.length).2
    have h2 : (labelBytes x.l).length ≤ 10 * x.l.length := by
      generalize x.l = ls
      induction ls with
      | nil => simp [labelBytes]
      | cons n ls ih =>
        have := (putU_len n.toNat).2
        simp only [labelBytes, List.flatMap_cons, List.length_append, List.length_cons] at ih ⊢
        omega
    simp only [partBytes, List.length_append]
    omega
  | k => have := putS_length x.k; simp only [partBytes]; omega
  | kk => have := putS_length x.k; simp only [partBytes]; omega
  | z => simp [partBytes]
theorem ins_len (x : Ins) (hf : formedI x) : (insBytes x).length ≤ 1400 ∧ ∀ y ∈ insBytes x, y < 256 := by
  have hw := formed_wide x hf
  obtain ⟨qs, hp, hfit, _⟩ := hf
  have hr := pat_range x.op qs hp
  obtain ⟨o, ho⟩ : ∃ o : Nat, x.op = (o : Int) := ⟨x.op.toNat, by omega⟩
  have hq : qs.length ≤ 2 := by
    have hm := pat_mem _ qs hp
    simp only [List.mem_cons, List.not_mem_nil, or_false] at hm
    rcases hm with rfl | rfl | rfl | rfl | rfl | rfl | rfl | rfl | rfl | rfl <;> simp
  have h1 := head_le o
  have h2 : ∀ qs : List Part, (qs.flatMap (partBytes x)).length ≤ 650 * qs.length := by
    intro qs
    induction qs with
    | nil => simp
    | cons q qs ih =>
      have := part_len64 x q hw.2
      rw [List.flatMap_cons, List.length_append, List.length_cons]
      omega
  have h3 := h2 qs
  have e : insBytes x = headBytes (o : Int) ++ qs.flatMap (partBytes x) := by unfold insBytes; rw [hp, ho]; rfl
  rw [e]
  refine ⟨by rw [List.length_append]; omega, app_lt (head_lt o (by omega)) fun y hy => ?_⟩
  obtain ⟨q, _, h⟩ := List.mem_flatMap.1 hy
  exact partBytes_byte x q y h
theorem iclone_gives (A : Option Addr) (l : List Nat) (c : Nat) (w W : World) (hs : Slc w A c l) (hW : Below w.heap.size w W) (hl : l.length ≤ 1000) : Calls Try.prog 25 #[.slice A l.length c] W (GivesB W l l.length) :=
  gives_b (iclone_any A l c W ((hs.bytes.below hW).more hW.size) hs.nil (by omega)) hs.bytes.1 rfl
theorem put_any (A : Option Addr) (l : List Nat) (c k : Nat) (v : Value) (x : Ins) (w : World) (hs : Slc w A c l) (hl : l.length ≤ 1000) (hv : InsV w v x) (hw : wide x) (hx : x.l.length ≤ 100) (hk : (putRes (formedB x) l (insBytes x)).1.length = k) :
    Calls Try.prog 11 #[.slice A l.length c, v] w (PutIs w (putRes (formedB x) l (insBytes x)).1 k (putRes (formedB x) l (insBytes x)).2) := by
  have HF := fun W (hW : Below w.heap.size w W) => formed_any v x W (hv.below hW) hw hx
  obtain ⟨LA, lc, rfl, _, _, _⟩ := id hv
  by_cases hf : formedB x = true
  · rw [hf] at hk HF ⊢
    have hfi := (formedB_iff x).1 hf
    have h1 := ins_len x hfi
    have h0 := insBytes_len x
    have hk' : l.length + (insBytes x).length = k := by rw [← hk]; simp [putRes]
    exact put_ok w A l.length c x.op x.a x.b x.k LA x.l.length lc l (insBytes x) _ k rfl hs.bytes.1 rfl (by omega) (by omega) hl hk' (Lib.hid HF) (Lib.hid fun W hW => iclone_gives A l c w W hs hW hl) (Lib.hid fun W hW => bytesOf_any _ x W _ (hv.below hW) hfi rfl)
  · have hf' : formedB x = false := by simpa using hf
    rw [hf'] at hk HF ⊢
    obtain rfl : 0 = k := hk
    exact put_no w A l.length c x.op x.a x.b x.k LA x.l.length lc (Lib.hid HF)
theorem allBytes_next (xs : List Ins) (j : Nat) (h : j < xs.length) : allBytes (xs.take (j + 1)) = allBytes (xs.take j) ++ insBytes xs[j] := by
  unfold allBytes
  rw [List.take_succ_eq_append_getElem h, List.flatMap_append]
  simp
theorem allBytes_le (xs : List Ins) (h : ∀ x ∈ xs, formedI x) : (allBytes xs).length ≤ 1400 * xs.length ∧ ∀ y ∈ allBytes xs, y < 256 := by
  induction xs with
  | nil => simp [allBytes]
  | cons x xs ih =>
    have h1 := ins_len x (h x (by simp))
    have h2 := ih (fun y hy => h y (by simp [hy]))
    simp only [allBytes, List.flatMap_cons, List.length_append, List.length_cons] at h2 ⊢
    exact ⟨by omega, app_lt h1.2 h2.2⟩
theorem putBody_no (w : World) (A A' : Option Addr) (len c n c' : Nat) (HC : Hid (Calls Try.prog 19 #[.slice A' n c'] w (Tells w false))) : Calls Try.prog 17 #[.slice A len c, .slice A' n c'] w (PutIs w [] 0 2) := by
  go_enter Try.func17, Try.ntmps17
  go_wp2_with fail
  refine HC.out.mono ?_
  rintro en w1 ⟨rfl, hb1⟩
  go_wp2
  go_ret2
  exact putIs_nil hb1
set_option maxHeartbeats 4000000 in
set_option maxRecDepth 100000 in
theorem putBody_ok (w : World) (A A' : Option Addr) (len c c' k : Nat) (l : List Nat) (xs : List Ins) (hl : l.length = len) (hlt : ∀ y ∈ l, y < 256) (hll : len ≤ 1000) (hxs : (xs.length : Int) ≤ 2000) (hi : Inss w w.heap.size A' xs) (hfs : ∀ x ∈ xs, formedI x) (hk : (l ++ allBytes xs).length = k)
    (HC : Hid (Calls Try.prog 19 #[.slice A' xs.length c'] w (Tells w true)))
    (HCL : Hid (∀ W, Below w.heap.size w W → Calls Try.prog 25 #[.slice A len c] W (GivesB W l len))) :
    Calls Try.prog 17 #[.slice A len c, .slice A' xs.length c'] w (PutIs w (l ++ allBytes xs) k 0) := by
  have HLT := Lib.hid hlt
  have HL := Lib.hid hl
  have HI := Lib.hid hi
  have HFS := Lib.hid hfs
  have HK := Lib.hid hk
  clear hl hlt hi hfs hk
  go_enter Try.func17, Try.ntmps17
  go_wp2_with fail
  refine HC.out.mono ?_
  rintro en w1 ⟨rfl, hb1⟩
  clear HC
  go_wp2_with fail
  refine (HCL.out _ hb1).mono ?_
  rintro en w2 ⟨A2, c2, rfl, hown2, hB2, hn2, hc2, hb2⟩
  have HO2 := Lib.hid (own_from hown2 hb1.size)
  have HBL2 := Lib.hid (hb1.trans (hb2.mono hb1.size))
  have HBY2 := Lib.hid (And.intro hB2 (And.intro hn2 hc2))
  clear HCL hown2 hb1 hb2 hB2 hn2 hc2
  go_wp2_with fail
  go_loopw [6, 16] (fun x6 x16 wr => ∃ (j : Nat) (Ao : Option Addr) (co ko : Nat), j ≤ xs.length ∧ x6 = .slice Ao ko co ∧ x16 = .int .i64 (j : Int) ∧ Hid (Own wr w.heap.size (.slice Ao ko co) (l ++ allBytes (xs.take j)) ∧ Bytes wr wr.heap.size Ao (l ++ allBytes (xs.take j)) ∧ (Ao = none → co = 0) ∧ ko ≤ co ∧ (l ++ allBytes (xs.take j)).length = ko) ∧ Hid (Below w.heap.size w wr)) (fun _ i _ => xs.length - (intOf i).toNat)
  case atStart => exact ⟨0, A2, c2, len, Nat.zero_le _, rfl, by go_num, Lib.hid ⟨by simpa [allBytes] using HO2.out, by simpa [allBytes] using HBY2.out.1, HBY2.out.2.1, HBY2.out.2.2, by simpa [allBytes] using HL.out⟩, HBL2⟩
  case round =>
    obtain ⟨j, Ao, co, ko, hj, rfl, rfl, HJ, HBL⟩ := hrel
    clear HO2 HBL2 HBY2
    by_cases hjl : j < xs.length
    · have hji : (j : Int) < (xs.length : Int) := by omega
      obtain ⟨b, off, rfl, hb, hc⟩ := HI.out (by omega)
      obtain ⟨LA, lc, q0, q1, q2, q3, q4, q5, q6, q7⟩ := hc j hjl
      have hf := HFS.out _ (List.getElem_mem hjl)
      have C : ∀ i, wr.cell? ⟨b, i, none⟩ = w.cell? ⟨b, i, none⟩ := fun i => HBL.out.cell (p := ⟨b, i, none⟩) hb
      have d0 := (C _).trans q0
      have d1 := (C _).trans q1
      have d2 := (C _).trans q2
      have d3 := (C _).trans q3
      have d4 := (C _).trans q4
      obtain ⟨kb, hkb⟩ : ∃ kb, (insBytes xs[j]).length = kb := ⟨_, rfl⟩
      have HBO : Hid (∀ W, Below w.heap.size w W → Calls Try.prog 26 #[.agg #[.int .i64 xs[j].op, .int .i64 xs[j].a, .int .i64 xs[j].b, .int .i64 xs[j].k, .slice LA xs[j].l.length lc]] W (GivesB W (insBytes xs[j]) kb)) := Lib.hid fun W hW =>
        bytesOf_any _ xs[j] W kb (InsV.below ⟨LA, lc, rfl, q5, q6, q7⟩ hW) hf hkb
      have hall := allBytes_le (xs.take j) (fun x hx => HFS.out x (List.mem_of_mem_take hx))
      have hil := ins_len xs[j] hf
      obtain ⟨g1, g2, g3, g4, g5⟩ := HJ.out
      have hko : ko ≤ 3000000 := by
        have h1 := hall.1
        rw [List.length_append, HL.out] at g5
        rw [List.length_take] at h1
        omega
      have hbl1 : Below wr.heap.size wr (wr.alloc (.cells #[.int .i64 xs[j].op, .int .i64 xs[j].a, .int .i64 xs[j].b, .int .i64 xs[j].k, .slice LA xs[j].l.length lc] 25)) := (Below.refl _ _).alloc (Nat.le_refl _) _
      have HL1 := Lib.hid (HBL.out.trans (hbl1.mono HBL.out.size))
      have HO1 : Hid (Own (wr.alloc (.cells #[.int .i64 xs[j].op, .int .i64 xs[j].a, .int .i64 xs[j].b, .int .i64 xs[j].k, .slice LA xs[j].l.length lc] 25)) w.heap.size (.slice Ao ko co) (l ++ allBytes (xs.take j))) := Lib.hid (g1.alloc _)
      have HLB := Lib.hid (app_lt HLT.out hall.2)
      have HNX : Hid ((l ++ allBytes (xs.take j)) ++ insBytes xs[j] = l ++ allBytes (xs.take (j + 1))) := Lib.hid (by rw [allBytes_next xs j hjl, List.append_assoc])
      have HKK : Hid (((l ++ allBytes (xs.take j)) ++ insBytes xs[j]).length = ko + kb) := Lib.hid (by rw [List.length_append, g5, hkb])
      have HKB := Lib.hid hkb
      have hkk : ko + kb ≤ 140737488355328 := by have := hil.1; omega
      have HKL := Lib.hid hkk
      clear C q0 q1 q2 q3 q4 q5 q6 q7 hf hc hall hil g1 g2 g3 g4 g5 hko hbl1 hkb hkk HJ
      generalize xs[j].l.length = ln at *
      generalize insBytes xs[j] = ib at *
      generalize xs[j].op = op at *
      generalize xs[j].a = xa at *
      generalize xs[j].b = xb at *
      generalize xs[j].k = xk at *
      go_wp2_with fail
      refine (HBO.out _ HL1.out).mono ?_
      rintro en w4 ⟨A4, c4, rfl, hown4, hB4, hn4, hc4, hb4⟩
      have hownA := HO1.out.keep hb4 HO1.out.lt
      have HL4 := Lib.hid (HL1.out.trans (hb4.mono HL1.out.size))
      have hbase := HL4.out.size
      clear HBO HO1 HL1 hb4 hown4 d0 d1 d2 d3 d4
      go_wp2_with (at_builtin; refine app_slice rfl (.tmp 20) (.tmp 22) rfl w.heap.size _ (l ++ allBytes (xs.take j)) rfl hownA HLB.out A4 ib kb c4 _ (ko + kb) HKB.out rfl hB4 hn4 HKK.out HKL.out hbase ?_; intro A5 c5 w5 hown5 hB5 hc5 hn5 hb5)
      have HF5 : Hid (Own w5 w.heap.size (.slice A5 (ko + kb) c5) (l ++ allBytes (xs.take (j + 1))) ∧ Bytes w5 w5.heap.size A5 (l ++ allBytes (xs.take (j + 1))) ∧ (A5 = none → c5 = 0) ∧ ko + kb ≤ c5 ∧ (l ++ allBytes (xs.take (j + 1))).length = ko + kb) := Lib.hid (by
        rw [← HNX.out]
        exact ⟨hown5, hB5, hn5, hc5, HKK.out⟩)
      have HL5 := Lib.hid (HL4.out.trans hb5)
      clear hown5 hB5 hc5 hn5 hb5 hownA hbase
      go_roundw
      case rel => exact ⟨j + 1, A5, c5, ko + kb, by omega, rfl, by go_num, HF5, HL5⟩
      case measure => simp [intOf]; omega
    · obtain rfl : j = xs.length := by omega
      have hji : ¬ (xs.length : Int) < (xs.length : Int) := by omega
      obtain ⟨g1, g2, g3, g4, g5⟩ := HJ.out
      rw [List.take_length] at g1 g2 g5
      obtain rfl : ko = k := by rw [← g5, HK.out]
      have HG := Lib.hid (And.intro g1 g2)
      clear HJ g1 g2 g5 HI HFS
      go_wp2
      go_ret2
      exact putIs_of HG.out.1 (Nat.le_refl _) HG.out.2 g3 g4 HBL.out
theorem putBody_any (A A' : Option Addr) (l : List Nat) (xs : List Ins) (c c' k : Nat) (w : World) (hs : Slc w A c l) (hl : l.length ≤ 1000) (hx : Sli w A' c' xs) (hsh : short xs) (hk : (putRes (shutB xs) l (allBytes xs)).1.length = k) :
    Calls Try.prog 17 #[.slice A l.length c, .slice A' xs.length c'] w (PutIs w (putRes (shutB xs) l (allBytes xs)).1 k (putRes (shutB xs) l (allBytes xs)).2) := by
  have HC := closed_any A' xs c' w hx hsh
  by_cases hf : shutB xs = true
  · have hci := (shutB_iff xs).1 hf
    have hcs := closed_short 0 [] xs hci
    rw [hf] at hk HC ⊢
    exact putBody_ok w A A' l.length c c' k l xs rfl hs.bytes.1 hl (by omega) hx.ins hcs.2 hk (Lib.hid HC) (Lib.hid fun W hW => iclone_gives A l c w W hs hW hl)
  · have hf' : shutB xs = false := by simpa using hf
    rw [hf'] at hk HC ⊢
    obtain rfl : 0 = k := hk
    exact putBody_no w A A' l.length c xs.length c' (Lib.hid HC)
end Go.Proofs.Ytdipgokbfjbgfaa.Ins
namespace Go.Proofs.Ytdipgokbfjbgfaa.Ins
open Go.RowKit Leb Typ

theorem does : Does (fun _ => True) where
  keep _ _ _ _ := trivial
  one A l c w hs hl _ := one_any A l c w hs hl
  body A l c w hs hl _ := body_any A l c w hs hl
  formed v x w hv hw hl _ := formed_any v x w hv hw hl
  closed A xs c w hs hsh _ := closed_any A xs c w hs hsh
  put A l c k v x w hs hl hv hw hx hk _ := put_any A l c k v x w hs hl hv hw hx hk
  putBody A A' l xs c c' k w hs hl hx hsh hk _ := putBody_any A A' l xs c c' k w hs hl hx hsh hk
end Go.Proofs.Ytdipgokbfjbgfaa.Ins
