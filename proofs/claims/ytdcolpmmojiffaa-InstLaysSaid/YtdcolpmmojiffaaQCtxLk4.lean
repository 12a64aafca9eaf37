/-
  CtxLk4: ctx: exports (no name twice), and elem. Conditions: the context lies in memory; a name is no longer than any is. (Written by wip/tools/genctxlk4.py.)
-/
import Derived.Test.YtdcolpmmojiffaaQCtxLk3
import Derived.Test.YtdcolpmmojiffaaQCtxEach
import Derived.Maps.OwnSet
import Derived.Maps.OwnOps
import Derived.StringKeys
namespace Go.Proofs.Ytdcolpmmojiffaa.Cx
open Go.RowKit Leb
open _root_.Go.Proofs.Ytdcolpmmojiffaa.Mod
open _root_.Go.Maps

theorem lawS : Keyed Try.prog 9 := string_keyed Try.underlying9
theorem zeroU (w : World) : (zeroValue 131).run Try.prog w = .ok (.agg #[]) w := by kernel_rfl
theorem map_same {P : Program} {k : TypeId} {R : Value → Option (DataW Unit × List MemPlace)} {w w' : World} {b n : Nat} {D : DataW Unit} (h : w.ownsMap P k R b n D) (e : w'.heap[b]? = w.heap[b]?) : w'.ownsMap P k R b n D := by
  obtain ⟨es, clock, hb, r⟩ := h
  exact ⟨es, clock, e.trans hb, r⟩
def kx (s : ByteArray) : Lit := .string s.data.toList
def setN (l : List ByteArray) : DataW Unit := setOf (.agg []) (l.map kx)
theorem setN_has (l : List ByteArray) (s : ByteArray) : Maps.has (setN l) (kx s) = hasN l s := by
  unfold setN
  rw [has_setOf _ _ _ (fun y hy => by obtain ⟨_, _, rfl⟩ := List.mem_map.1 hy; trivial), List.any_map]
  unfold hasN
  congr 1
  funext r
  show (r.data.toList == s.data.toList) = (r.data == s.data)
  by_cases e : r.data = s.data
  · simp
  · simp
theorem setN_snoc (l : List ByteArray) (s : ByteArray) : setN (l ++ [s]) = (setN l).put (kx s) (.agg []) := by
  unfold setN
  rw [List.map_append, List.map_singleton, setOf_snoc]
def SE (bx be : Nat) (q : Plc) (c : GCtx) (kd ix : Int) (V : World) : Prop := BoxC bx V q c ∧ V.cell? ⟨be, 1, none⟩ = some (.int .i64 kd) ∧ V.cell? ⟨be, 2, none⟩ = some (.int .i64 ix)
theorem boxC_keep {bx : Nat} {q : Plc} {c : GCtx} {V V' : World} (h : BoxC bx V q c) (h1 : V'.heap[bx]? = V.heap[bx]?) : BoxC bx V' q c := by
  obtain ⟨s0, s1, s2, s3, s4, s5, s6, s7, s8, s9⟩ := h
  have e : ∀ i, V'.cell? ⟨bx, i, none⟩ = V.cell? ⟨bx, i, none⟩ := fun i => World.cell?_of_block h1
  exact ⟨(e 0).trans s0, (e 1).trans s1, (e 2).trans s2, (e 3).trans s3, (e 4).trans s4, (e 5).trans s5, (e 6).trans s6, (e 7).trans s7, (e 8).trans s8, (e 9).trans s9⟩
theorem se_keep {bx be : Nat} {q : Plc} {c : GCtx} {kd ix : Int} {V V' : World} (h : SE bx be q c kd ix V) (h1 : V'.heap[bx]? = V.heap[bx]?) (h2 : V'.heap[be]? = V.heap[be]?) : SE bx be q c kd ix V' :=
  ⟨boxC_keep h.1 h1, (World.cell?_of_block h2).trans h.2.1, (World.cell?_of_block h2).trans h.2.2⟩
section
variable (q : Plc) (c : GCtx) (w : World) {ok : Nat → Prop}
set_option maxRecDepth 100000 in
set_option maxHeartbeats 8000000 in
theorem exports_any {okE : Nat → Prop} {A : Option Addr} {cc : Nat} (l : List GExpo) (he : Lst expoR w okE A cc l) (hn : l.length ≤ 100000) (hnm : ∀ x ∈ l, x.nm.size ≤ maxLen) : Calls Try.prog 51 #[.agg #[.slice q.A0 c.types.length q.d0, .slice q.A1 c.funcs.length q.d1, .slice q.A2 c.globs.length q.d2, .slice q.A3 c.tabs.length q.d3, .slice q.A4 c.mems.length q.d4, .int .i64 c.hosts, .int .i64 c.vars, .int .i64 c.els, .int .i64 c.dats, .bool c.counted], .slice A l.length cc] w (NumIs w (expE c [] l)) := by
  have hmm := @run_makeMap Try.prog
  have HL := Lib.hid he
  have HNM := Lib.hid hnm
  have hlen : (l.length : Int) ≤ 100000 := by omega
  have h0 : Hid (((w.alloc (.cells #[.slice q.A0 c.types.length q.d0, .slice q.A1 c.funcs.length q.d1, .slice q.A2 c.globs.length q.d2, .slice q.A3 c.tabs.length q.d3, .slice q.A4 c.mems.length q.d4, .int .i64 c.hosts, .int .i64 c.vars, .int .i64 c.els, .int .i64 c.dats, .bool c.counted] 103)).alloc (.map #[] 0)).ownsMap Try.prog 9 (unitElem (H := Unit)) (w.heap.size + 1) 0 (setN ((l.take 0).map (fun x => x.nm))) ∧ Below w.heap.size w ((w.alloc (.cells #[.slice q.A0 c.types.length q.d0, .slice q.A1 c.funcs.length q.d1, .slice q.A2 c.globs.length q.d2, .slice q.A3 c.tabs.length q.d3, .slice q.A4 c.mems.length q.d4, .int .i64 c.hosts, .int .i64 c.vars, .int .i64 c.els, .int .i64 c.dats, .bool c.counted] 103)).alloc (.map #[] 0)) ∧ BoxC w.heap.size ((w.alloc (.cells #[.slice q.A0 c.types.length q.d0, .slice q.A1 c.funcs.length q.d1, .slice q.A2 c.globs.length q.d2, .slice q.A3 c.tabs.length q.d3, .slice q.A4 c.mems.length q.d4, .int .i64 c.hosts, .int .i64 c.vars, .int .i64 c.els, .int .i64 c.dats, .bool c.counted] 103)).alloc (.map #[] 0)) q c ∧ w.heap.size + 1 < ((w.alloc (.cells #[.slice q.A0 c.types.length q.d0, .slice q.A1 c.funcs.length q.d1, .slice q.A2 c.globs.length q.d2, .slice q.A3 c.tabs.length q.d3, .slice q.A4 c.mems.length q.d4, .int .i64 c.hosts, .int .i64 c.vars, .int .i64 c.els, .int .i64 c.dats, .bool c.counted] 103)).alloc (.map #[] 0)).heap.size ∧ expE c [] l = expE c ((l.take 0).map (fun x => x.nm)) (l.drop 0)) := Lib.hid (by
    have h := World.ownsMap_made (H := Unit) (w.alloc (.cells #[.slice q.A0 c.types.length q.d0, .slice q.A1 c.funcs.length q.d1, .slice q.A2 c.globs.length q.d2, .slice q.A3 c.tabs.length q.d3, .slice q.A4 c.mems.length q.d4, .int .i64 c.hosts, .int .i64 c.vars, .int .i64 c.els, .int .i64 c.dats, .bool c.counted] 103)) Try.prog 9 unitElem
    have e : (w.alloc (.cells #[.slice q.A0 c.types.length q.d0, .slice q.A1 c.funcs.length q.d1, .slice q.A2 c.globs.length q.d2, .slice q.A3 c.tabs.length q.d3, .slice q.A4 c.mems.length q.d4, .int .i64 c.hosts, .int .i64 c.vars, .int .i64 c.els, .int .i64 c.dats, .bool c.counted] 103)).heap.size = w.heap.size + 1 := by simp
    rw [e] at h
    refine ⟨h, (((Below.refl _ _).alloc (Nat.le_refl _) _).alloc (by simp) _), ?_, by simp, rfl⟩
    refine ⟨?_, ?_, ?_, ?_, ?_, ?_, ?_, ?_, ?_, ?_⟩ <;> exact (World.cell?_alloc_lt _ _ _ (by simp)).trans (by simp))
  clear he hn hnm
  go_enter Try.func51, Try.ntmps51
  go_wp2_with fail
  go_loopw [13] (fun i wr => ∃ j : Nat, i = .int .i64 (j : Int) ∧ j ≤ l.length ∧ Hid (wr.ownsMap Try.prog 9 (unitElem (H := Unit)) (w.heap.size + 1) j (setN ((l.take j).map (fun x => x.nm))) ∧ Below w.heap.size w wr ∧ BoxC w.heap.size wr q c ∧ w.heap.size + 1 < wr.heap.size ∧ expE c [] l = expE c ((l.take j).map (fun x => x.nm)) (l.drop j))) (fun i _ => l.length - (intOf i).toNat)
  case atStart => exact ⟨0, rfl, Nat.zero_le _, h0⟩
  case round =>
    clear h0
    obtain ⟨j, rfl, hj, HI⟩ := hrel
    by_cases hlt : j < l.length
    · have hlti : (j : Int) < (l.length : Int) := by omega
      obtain ⟨b, off, hA, h1⟩ := sm_expo HL.out j hlt
      obtain ⟨q0, q1, q2⟩ := h1 wr HI.out.2.1
      have hsz := HNM.out _ (List.getElem_mem hlt)
      have HTK : Hid ((l.take (j + 1)).map (fun x => x.nm) = (l.take j).map (fun x => x.nm) ++ [l[j].nm]) := Lib.hid (by rw [List.take_succ_eq_append_getElem hlt, List.map_append]; rfl)
      have HDR : Hid (l.drop j = l[j] :: l.drop (j + 1)) := Lib.hid (List.drop_eq_getElem_cons hlt)
      have HEQ := Lib.hid HI.out.2.2.2.2
      rw [hA]
      clear h1 hA
      generalize l[j] = x at *
      have hkey : keyOf Try.prog 9 (.string x.nm) = some (kx x.nm) := Go.WideMaps.keyOf_string_mk Try.underlying9 hsz
      have HOWA : Hid ((wr.alloc (.cells #[.string x.nm, .int .i64 x.kind, .int .i64 x.idx] 130)).ownsMap Try.prog 9 (unitElem (H := Unit)) (w.heap.size + 1) j (setN ((l.take j).map (fun x => x.nm)))) := Lib.hid (HI.out.1.alloc _)
      have HOWB : Hid (((wr.alloc (.cells #[.string x.nm, .int .i64 x.kind, .int .i64 x.idx] 130)).alloc (.cells #[] 131)).ownsMap Try.prog 9 (unitElem (H := Unit)) (w.heap.size + 1) j (setN ((l.take j).map (fun x => x.nm)))) := Lib.hid ((HI.out.1.alloc _).alloc _)
      have HXB : Hid (Below wr.heap.size wr ((wr.alloc (.cells #[.string x.nm, .int .i64 x.kind, .int .i64 x.idx] 130)).alloc (.cells #[] 131))) := Lib.hid (((Below.refl _ _).alloc (Nat.le_refl _) _).alloc (by simp) _)
      have HXS : Hid (((wr.alloc (.cells #[.string x.nm, .int .i64 x.kind, .int .i64 x.idx] 130)).alloc (.cells #[] 131)).heap.size = wr.heap.size + 2) := Lib.hid (by simp)
      have HSE : Hid (SE w.heap.size wr.heap.size q c x.kind x.idx ((wr.alloc (.cells #[.string x.nm, .int .i64 x.kind, .int .i64 x.idx] 130)).alloc (.cells #[] 131))) := Lib.hid ⟨boxC_keep HI.out.2.2.1 (HXB.out.block _ (by have := HI.out.2.2.2.1; omega)), (World.cell?_alloc_lt _ _ _ (by simp)).trans (by simp), (World.cell?_alloc_lt _ _ _ (by simp)).trans (by simp)⟩
      have HSG : Hid (∀ w1, ((wr.alloc (.cells #[.string x.nm, .int .i64 x.kind, .int .i64 x.idx] 130)).alloc (.cells #[] 131)).grownBy w1 (some (w.heap.size + 1)) → SE w.heap.size wr.heap.size q c x.kind x.idx w1) := Lib.hid fun w1 hg => se_keep HSE.out (hg.block _ (by have := HXS.out; have := HI.out.2.2.2.1; omega) (by simp)) (hg.block _ (by have := HXS.out; omega) (by have := HI.out.2.2.2.1; intro e; injection e with e; omega))
      have hhas := setN_has ((l.take j).map (fun x => x.nm)) x.nm
      cases hin : hasN ((l.take j).map (fun x => x.nm)) x.nm with
      | true =>
        have HE8 : Hid (expE c [] l = 8) := Lib.hid (by rw [HEQ.out, HDR.out]; show (if hasN _ _ = true then (8 : Int) else _) = 8; rw [if_pos hin])
        rw [hin] at hhas
        generalize setN ((l.take j).map (fun x => x.nm)) = D at *
        clear hin HTK HEQ HDR
        go_wp2_with (at_lookup; refine wpList_lookup_own_unit _ rfl _ _ 128 rfl 9 131 lawS Try.underlying128 (zeroU _) (w.heap.size + 1) j _ rfl HOWA.out _ _ rfl hkey ?_)
        go_ret
        exact ⟨by rw [HE8.out]; rfl, HI.out.2.1.trans (HXB.out.mono HI.out.2.1.size)⟩
      | false =>
        rw [hin] at hhas
        generalize hDD : setN ((l.take j).map (fun x => x.nm)) = D at *
        have HDD := Lib.hid hDD
        clear hDD
        cases hib : inB x.idx (manyN c x.kind) with
        | false =>
          have HMY : Hid (∀ V : World, Calls Try.prog 64 #[.agg #[.slice q.A0 c.types.length q.d0, .slice q.A1 c.funcs.length q.d1, .slice q.A2 c.globs.length q.d2, .slice q.A3 c.tabs.length q.d3, .slice q.A4 c.mems.length q.d4, .int .i64 c.hosts, .int .i64 c.vars, .int .i64 c.els, .int .i64 c.dats, .bool c.counted], .int .i64 x.kind] V (NumIs V (manyN c x.kind : Nat))) := Lib.hid fun V => many_any q c V x.kind
          have HTH : Hid (∀ V : World, Calls Try.prog 63 #[.int .i64 x.idx, .int .i64 (manyN c x.kind : Nat)] V fun en w' => en = .returned (.bool false) ∧ w' = V) := Lib.hid fun V => by
            have := there_any x.idx (manyN c x.kind) V
            rwa [hib] at this
          have HNX : Hid (expE c [] l = 7 ∧ True) := Lib.hid ⟨by rw [HEQ.out, HDR.out]; show (if hasN _ _ = true then (8 : Int) else if inB _ _ = true then _ else 7) = 7; rw [if_neg (by rw [hin]; simp), if_neg (by rw [hib]; simp)], trivial⟩
          clear hib
          generalize ((manyN c x.kind : Nat) : Int) = mn at *
          go_wp2_with (first | (at_lookup; refine wpList_lookup_own_unit _ rfl _ _ 128 rfl 9 131 lawS Try.underlying128 (zeroU _) (w.heap.size + 1) j _ rfl HOWA.out _ _ rfl hkey ?_) | (at_mapUpdate; refine wpList_mapUpdate_own _ rfl _ _ _ 128 rfl 9 131 lawS Try.underlying128 (unitElem (H := Unit)) (w.heap.size + 1) j _ rfl HOWB.out (by unfold maxLen; omega) _ _ _ rfl rfl hkey _ [] unitElem_mk ?_; intro w1 hown1 hgrow1; have HM1 := Lib.hid (And.intro hown1 hgrow1); clear hown1 hgrow1; have HSW := Lib.hid (HSG.out w1 HM1.out.2)))
          refine wp_region_held_drew (S := SE w.heap.size wr.heap.size q c x.kind x.idx) (by kernel_rfl) HSW.out (fun hS => ?_)
          have HBB : Hid (Below w.heap.size w w1.drew) := Lib.hid ((HI.out.2.1.trans (HXB.out.mono HI.out.2.1.size)).trans (((Below.refl _ _).grown HM1.out.2 (by have := HI.out.2.1.size; have := HXB.out.size; omega) (fun k hk => by injection hk with hk; omega)).drew))
          have HMP : Hid (w1.drew.ownsMap Try.prog 9 unitElem (w.heap.size + 1) (j + 1) (setN ((l.take (j + 1)).map (fun x => x.nm)))) := Lib.hid (by rw [HTK.out, setN_snoc, HDD.out]; exact HM1.out.1)
          have HBS : Hid (w.heap.size ≤ w1.drew.heap.size) := Lib.hid HBB.out.size
          have HBM : Hid (w.heap.size + 1 < w1.drew.heap.size ∧ wr.heap.size < w1.drew.heap.size) := Lib.hid (by have h1 := HM1.out.2.size; have h2 := HXB.out.size; have h3 := HI.out.2.2.2.1; have h4 := HXS.out; show _ < w1.heap.size ∧ _ < w1.heap.size; omega)
          generalize w1.drew = V at *
          have HSV := Lib.hid hS
          have HSB : Hid (∀ v, Below V.heap.size V v → SE w.heap.size wr.heap.size q c x.kind x.idx v) := Lib.hid fun v hv => se_keep HSV.out (hv.block _ (by have := HBM.out; omega)) (hv.block _ HBM.out.2)
          have HBM : Hid (w.heap.size + 1 < V.heap.size) := Lib.hid HBM.out.1
          clear HSW HM1
          refine wpAnyH_take (i := 0) (oi := { dst := some 29, op := .fieldAddr 130 (.tmp 7) 2, type := 0, pos := "look.go:116", after := #[], guard := none }) (v := ?_) rfl (by kernel_rfl) (by kernel_rfl) (by kernel_rfl) (fun _ _ _ h => h) (Or.inl ⟨by rfl, ?_⟩) hS ?_
          rotate_left
          · (intro w' hS'; obtain ⟨⟨s0, s1, s2, s3, s4, s5, s6, s7, s8, s9⟩, s10, s11⟩ := hS'; go_simp) <;> with_reducible rfl
          try simp only [Act.put, List.setIfInBounds_toArray, List.set_cons_zero, List.set_cons_succ]
          refine wpAnyH_take (i := 1) (oi := { dst := some 30, op := .load 3 (.tmp 29), type := 3, pos := "look.go:116", after := #[{ on := 0, ground := .data }], guard := none }) (v := ?_) rfl (by kernel_rfl) (by kernel_rfl) (by kernel_rfl) (fun _ _ _ h => h) (Or.inl ⟨by rfl, ?_⟩) hS ?_
          rotate_left
          · (intro w' hS'; obtain ⟨⟨s0, s1, s2, s3, s4, s5, s6, s7, s8, s9⟩, s10, s11⟩ := hS'; go_simp) <;> with_reducible rfl
          try simp only [Act.put, List.setIfInBounds_toArray, List.set_cons_zero, List.set_cons_succ]
          refine wpAnyH_take (i := 2) (oi := { dst := some 31, op := .load 103 (.tmp 2), type := 103, pos := "look.go:116", after := #[], guard := none }) (v := ?_) rfl (by kernel_rfl) (by kernel_rfl) (by kernel_rfl) (fun _ _ _ h => h) (Or.inl ⟨by rfl, ?_⟩) hS ?_
          rotate_left
          · (intro w' hS'; obtain ⟨⟨s0, s1, s2, s3, s4, s5, s6, s7, s8, s9⟩, s10, s11⟩ := hS'; go_simp) <;> with_reducible rfl
          try simp only [Act.put, List.setIfInBounds_toArray, List.set_cons_zero, List.set_cons_succ]
          refine wpAnyH_take (i := 3) (oi := { dst := some 32, op := .fieldAddr 130 (.tmp 7) 1, type := 0, pos := "look.go:116", after := #[], guard := none }) (v := ?_) rfl (by kernel_rfl) (by kernel_rfl) (by kernel_rfl) (fun _ _ _ h => h) (Or.inl ⟨by rfl, ?_⟩) hS ?_
          rotate_left
          · (intro w' hS'; obtain ⟨⟨s0, s1, s2, s3, s4, s5, s6, s7, s8, s9⟩, s10, s11⟩ := hS'; go_simp) <;> with_reducible rfl
          try simp only [Act.put, List.setIfInBounds_toArray, List.set_cons_zero, List.set_cons_succ]
          refine wpAnyH_take (i := 4) (oi := { dst := some 33, op := .load 3 (.tmp 32), type := 3, pos := "look.go:116", after := #[{ on := 3, ground := .data }], guard := none }) (v := ?_) rfl (by kernel_rfl) (by kernel_rfl) (by kernel_rfl) (fun _ _ _ h => h) (Or.inl ⟨by rfl, ?_⟩) hS ?_
          rotate_left
          · (intro w' hS'; obtain ⟨⟨s0, s1, s2, s3, s4, s5, s6, s7, s8, s9⟩, s10, s11⟩ := hS'; go_simp) <;> with_reducible rfl
          try simp only [Act.put, List.setIfInBounds_toArray, List.set_cons_zero, List.set_cons_succ]
          refine wpAnyH_ready (rs := [5]) (by kernel_rfl) (by simp) ?_
          refine AllReadyH.cons (o := { dst := some 34, op := .call { callee := .value (.func 64), args := #[.tmp 31, .tmp 33], argTypes := #[103, 3] }, type := 3, pos := "look.go:116", after := #[{ on := 2, ground := .data }, { on := 4, ground := .data }], guard := none }) rfl (fun K' hK => ?_) (AllReadyH.nil)
          go_simp
          refine (HMY.out V).mono ?_
          rintro en V1 ⟨rfl, hb1⟩
          have HB1 := Lib.hid hb1
          have HS1 := Lib.hid (HSB.out V1 hb1)
          clear hb1
          go_wp2_with fail
          refine hK.out _ _ HS1.out (fun hS => ?_)
          clear hK K'
          try simp only [Act.put, List.setIfInBounds_toArray, List.set_cons_zero, List.set_cons_succ]
          refine wpAnyH_ready (rs := [6]) (by kernel_rfl) (by simp) ?_
          refine AllReadyH.cons (o := { dst := some 35, op := .call { callee := .value (.func 63), args := #[.tmp 30, .tmp 34], argTypes := #[3, 3] }, type := 4, pos := "look.go:116", after := #[{ on := 1, ground := .data }, { on := 5, ground := .data }, { on := 5, ground := .chain }], guard := none }) rfl (fun K' hK => ?_) (AllReadyH.nil)
          go_simp
          refine (HTH.out V1).mono ?_
          rintro en V2 ⟨rfl, rfl⟩
          go_wp2_with fail
          refine hK.out _ _ HS1.out (fun hS => ?_)
          clear hK K'
          try simp only [Act.put, List.setIfInBounds_toArray, List.set_cons_zero, List.set_cons_succ]
          refine wpAnyH_take (i := 7) (oi := { dst := some 36, op := .unOp .not 4 (.tmp 35), type := 4, pos := "look.go:116", after := #[{ on := 6, ground := .data }], guard := none }) (v := ?_) rfl (by kernel_rfl) (by kernel_rfl) (by kernel_rfl) (fun _ _ _ h => h) (Or.inl ⟨by rfl, ?_⟩) hS ?_
          rotate_left
          · (intro w' hS'; obtain ⟨⟨s0, s1, s2, s3, s4, s5, s6, s7, s8, s9⟩, s10, s11⟩ := hS'; go_simp) <;> with_reducible rfl
          try simp only [Act.put, List.setIfInBounds_toArray, List.set_cons_zero, List.set_cons_succ]
          refine wpAnyH_done (by kernel_rfl) ?_ _
          go_wp2
          go_ret
          exact ⟨by rw [HNX.out.1]; rfl, HBB.out.trans (HB1.out.mono HBS.out)⟩
        | true =>
          have HMY : Hid (∀ V : World, Calls Try.prog 64 #[.agg #[.slice q.A0 c.types.length q.d0, .slice q.A1 c.funcs.length q.d1, .slice q.A2 c.globs.length q.d2, .slice q.A3 c.tabs.length q.d3, .slice q.A4 c.mems.length q.d4, .int .i64 c.hosts, .int .i64 c.vars, .int .i64 c.els, .int .i64 c.dats, .bool c.counted], .int .i64 x.kind] V (NumIs V (manyN c x.kind : Nat))) := Lib.hid fun V => many_any q c V x.kind
          have HTH : Hid (∀ V : World, Calls Try.prog 63 #[.int .i64 x.idx, .int .i64 (manyN c x.kind : Nat)] V fun en w' => en = .returned (.bool true) ∧ w' = V) := Lib.hid fun V => by
            have := there_any x.idx (manyN c x.kind) V
            rwa [hib] at this
          have HNX : Hid (expE c [] l = expE c ((l.take (j + 1)).map (fun x => x.nm)) (l.drop (j + 1))) := Lib.hid (by rw [HEQ.out, HDR.out, HTK.out]; show (if hasN _ _ = true then (8 : Int) else if inB _ _ = true then _ else 7) = _; rw [if_neg (by rw [hin]; simp), if_pos hib])
          clear hib
          generalize ((manyN c x.kind : Nat) : Int) = mn at *
          go_wp2_with (first | (at_lookup; refine wpList_lookup_own_unit _ rfl _ _ 128 rfl 9 131 lawS Try.underlying128 (zeroU _) (w.heap.size + 1) j _ rfl HOWA.out _ _ rfl hkey ?_) | (at_mapUpdate; refine wpList_mapUpdate_own _ rfl _ _ _ 128 rfl 9 131 lawS Try.underlying128 (unitElem (H := Unit)) (w.heap.size + 1) j _ rfl HOWB.out (by unfold maxLen; omega) _ _ _ rfl rfl hkey _ [] unitElem_mk ?_; intro w1 hown1 hgrow1; have HM1 := Lib.hid (And.intro hown1 hgrow1); clear hown1 hgrow1; have HSW := Lib.hid (HSG.out w1 HM1.out.2)))
          refine wp_region_held_drew (S := SE w.heap.size wr.heap.size q c x.kind x.idx) (by kernel_rfl) HSW.out (fun hS => ?_)
          have HBB : Hid (Below w.heap.size w w1.drew) := Lib.hid ((HI.out.2.1.trans (HXB.out.mono HI.out.2.1.size)).trans (((Below.refl _ _).grown HM1.out.2 (by have := HI.out.2.1.size; have := HXB.out.size; omega) (fun k hk => by injection hk with hk; omega)).drew))
          have HMP : Hid (w1.drew.ownsMap Try.prog 9 unitElem (w.heap.size + 1) (j + 1) (setN ((l.take (j + 1)).map (fun x => x.nm)))) := Lib.hid (by rw [HTK.out, setN_snoc, HDD.out]; exact HM1.out.1)
          have HBS : Hid (w.heap.size ≤ w1.drew.heap.size) := Lib.hid HBB.out.size
          have HBM : Hid (w.heap.size + 1 < w1.drew.heap.size ∧ wr.heap.size < w1.drew.heap.size) := Lib.hid (by have h1 := HM1.out.2.size; have h2 := HXB.out.size; have h3 := HI.out.2.2.2.1; have h4 := HXS.out; show _ < w1.heap.size ∧ _ < w1.heap.size; omega)
          generalize w1.drew = V at *
          have HSV := Lib.hid hS
          have HSB : Hid (∀ v, Below V.heap.size V v → SE w.heap.size wr.heap.size q c x.kind x.idx v) := Lib.hid fun v hv => se_keep HSV.out (hv.block _ (by have := HBM.out; omega)) (hv.block _ HBM.out.2)
          have HBM : Hid (w.heap.size + 1 < V.heap.size) := Lib.hid HBM.out.1
          clear HSW HM1
          refine wpAnyH_take (i := 0) (oi := { dst := some 29, op := .fieldAddr 130 (.tmp 7) 2, type := 0, pos := "look.go:116", after := #[], guard := none }) (v := ?_) rfl (by kernel_rfl) (by kernel_rfl) (by kernel_rfl) (fun _ _ _ h => h) (Or.inl ⟨by rfl, ?_⟩) hS ?_
          rotate_left
          · (intro w' hS'; obtain ⟨⟨s0, s1, s2, s3, s4, s5, s6, s7, s8, s9⟩, s10, s11⟩ := hS'; go_simp) <;> with_reducible rfl
          try simp only [Act.put, List.setIfInBounds_toArray, List.set_cons_zero, List.set_cons_succ]
          refine wpAnyH_take (i := 1) (oi := { dst := some 30, op := .load 3 (.tmp 29), type := 3, pos := "look.go:116", after := #[{ on := 0, ground := .data }], guard := none }) (v := ?_) rfl (by kernel_rfl) (by kernel_rfl) (by kernel_rfl) (fun _ _ _ h => h) (Or.inl ⟨by rfl, ?_⟩) hS ?_
          rotate_left
          · (intro w' hS'; obtain ⟨⟨s0, s1, s2, s3, s4, s5, s6, s7, s8, s9⟩, s10, s11⟩ := hS'; go_simp) <;> with_reducible rfl
          try simp only [Act.put, List.setIfInBounds_toArray, List.set_cons_zero, List.set_cons_succ]
          refine wpAnyH_take (i := 2) (oi := { dst := some 31, op := .load 103 (.tmp 2), type := 103, pos := "look.go:116", after := #[], guard := none }) (v := ?_) rfl (by kernel_rfl) (by kernel_rfl) (by kernel_rfl) (fun _ _ _ h => h) (Or.inl ⟨by rfl, ?_⟩) hS ?_
          rotate_left
          · (intro w' hS'; obtain ⟨⟨s0, s1, s2, s3, s4, s5, s6, s7, s8, s9⟩, s10, s11⟩ := hS'; go_simp) <;> with_reducible rfl
          try simp only [Act.put, List.setIfInBounds_toArray, List.set_cons_zero, List.set_cons_succ]
          refine wpAnyH_take (i := 3) (oi := { dst := some 32, op := .fieldAddr 130 (.tmp 7) 1, type := 0, pos := "look.go:116", after := #[], guard := none }) (v := ?_) rfl (by kernel_rfl) (by kernel_rfl) (by kernel_rfl) (fun _ _ _ h => h) (Or.inl ⟨by rfl, ?_⟩) hS ?_
          rotate_left
          · (intro w' hS'; obtain ⟨⟨s0, s1, s2, s3, s4, s5, s6, s7, s8, s9⟩, s10, s11⟩ := hS'; go_simp) <;> with_reducible rfl
          try simp only [Act.put, List.setIfInBounds_toArray, List.set_cons_zero, List.set_cons_succ]
          refine wpAnyH_take (i := 4) (oi := { dst := some 33, op := .load 3 (.tmp 32), type := 3, pos := "look.go:116", after := #[{ on := 3, ground := .data }], guard := none }) (v := ?_) rfl (by kernel_rfl) (by kernel_rfl) (by kernel_rfl) (fun _ _ _ h => h) (Or.inl ⟨by rfl, ?_⟩) hS ?_
          rotate_left
          · (intro w' hS'; obtain ⟨⟨s0, s1, s2, s3, s4, s5, s6, s7, s8, s9⟩, s10, s11⟩ := hS'; go_simp) <;> with_reducible rfl
          try simp only [Act.put, List.setIfInBounds_toArray, List.set_cons_zero, List.set_cons_succ]
          refine wpAnyH_ready (rs := [5]) (by kernel_rfl) (by simp) ?_
          refine AllReadyH.cons (o := { dst := some 34, op := .call { callee := .value (.func 64), args := #[.tmp 31, .tmp 33], argTypes := #[103, 3] }, type := 3, pos := "look.go:116", after := #[{ on := 2, ground := .data }, { on := 4, ground := .data }], guard := none }) rfl (fun K' hK => ?_) (AllReadyH.nil)
          go_simp
          refine (HMY.out V).mono ?_
          rintro en V1 ⟨rfl, hb1⟩
          have HB1 := Lib.hid hb1
          have HS1 := Lib.hid (HSB.out V1 hb1)
          clear hb1
          go_wp2_with fail
          refine hK.out _ _ HS1.out (fun hS => ?_)
          clear hK K'
          try simp only [Act.put, List.setIfInBounds_toArray, List.set_cons_zero, List.set_cons_succ]
          refine wpAnyH_ready (rs := [6]) (by kernel_rfl) (by simp) ?_
          refine AllReadyH.cons (o := { dst := some 35, op := .call { callee := .value (.func 63), args := #[.tmp 30, .tmp 34], argTypes := #[3, 3] }, type := 4, pos := "look.go:116", after := #[{ on := 1, ground := .data }, { on := 5, ground := .data }, { on := 5, ground := .chain }], guard := none }) rfl (fun K' hK => ?_) (AllReadyH.nil)
          go_simp
          refine (HTH.out V1).mono ?_
          rintro en V2 ⟨rfl, rfl⟩
          go_wp2_with fail
          refine hK.out _ _ HS1.out (fun hS => ?_)
          clear hK K'
          try simp only [Act.put, List.setIfInBounds_toArray, List.set_cons_zero, List.set_cons_succ]
          refine wpAnyH_take (i := 7) (oi := { dst := some 36, op := .unOp .not 4 (.tmp 35), type := 4, pos := "look.go:116", after := #[{ on := 6, ground := .data }], guard := none }) (v := ?_) rfl (by kernel_rfl) (by kernel_rfl) (by kernel_rfl) (fun _ _ _ h => h) (Or.inl ⟨by rfl, ?_⟩) hS ?_
          rotate_left
          · (intro w' hS'; obtain ⟨⟨s0, s1, s2, s3, s4, s5, s6, s7, s8, s9⟩, s10, s11⟩ := hS'; go_simp) <;> with_reducible rfl
          try simp only [Act.put, List.setIfInBounds_toArray, List.set_cons_zero, List.set_cons_succ]
          refine wpAnyH_done (by kernel_rfl) ?_ _
          have HN : Hid (V2.ownsMap Try.prog 9 unitElem (w.heap.size + 1) (j + 1) (setN ((l.take (j + 1)).map (fun x => x.nm))) ∧ Below w.heap.size w V2 ∧ BoxC w.heap.size V2 q c ∧ w.heap.size + 1 < V2.heap.size ∧ expE c [] l = expE c ((l.take (j + 1)).map (fun x => x.nm)) (l.drop (j + 1))) := Lib.hid ⟨map_same HMP.out (HB1.out.block _ HBM.out), HBB.out.trans (HB1.out.mono HBS.out), HS1.out.1, by have := HB1.out.size; have := HBM.out; omega, HNX.out⟩
          go_wp2
          go_roundw
          case rel => exact ⟨j + 1, by go_num, by omega, HN⟩
          case measure => simp [intOf]; omega
    · have hlti : ¬ (j : Int) < (l.length : Int) := by omega
      have HE0 : Hid (expE c [] l = 0) := Lib.hid (by rw [HI.out.2.2.2.2, List.drop_eq_nil_of_le (by omega)]; rfl)
      go_wp2
      go_ret
      exact ⟨by rw [HE0.out]; rfl, HI.out.2.1⟩
end
def SL (bx be : Nat) (q : Plc) (c : GCtx) (md : Int) (A1 : Option Addr) (n1 c1 : Nat) (A2 : Option Addr) (n2 c2 : Nat) (V : World) : Prop := BoxC bx V q c ∧ V.cell? ⟨be, 0, none⟩ = some (.int .i64 md) ∧ V.cell? ⟨be, 1, none⟩ = some (.slice A1 n1 c1) ∧ V.cell? ⟨be, 2, none⟩ = some (.slice A2 n2 c2)
section
variable (q : Plc) (c : GCtx) (w : World) {ok : Nat → Prop}
set_option maxRecDepth 100000 in
set_option maxHeartbeats 8000000 in
theorem elem_any (hl : CtxL w ok q c) (x : GEl) {okI okF : Nat → Prop} {A1 : Option Addr} {c1 : Nat} {A2 : Option Addr} {c2 : Nat} (ho : Lst insR w okI A1 c1 x.off) (hf : Lst intR w okF A2 c2 x.fs) (hn : x.fs.length ≤ 100000) : Calls Try.prog 55 #[.agg #[.slice q.A0 c.types.length q.d0, .slice q.A1 c.funcs.length q.d1, .slice q.A2 c.globs.length q.d2, .slice q.A3 c.tabs.length q.d3, .slice q.A4 c.mems.length q.d4, .int .i64 c.hosts, .int .i64 c.vars, .int .i64 c.els, .int .i64 c.dats, .bool c.counted], .agg #[.int .i64 x.mode, .slice A1 x.off.length c1, .slice A2 x.fs.length c2]] w (NumIs w (elE c x)) := by
  have HBV0 : Hid (Below w.heap.size w ((w.alloc (.cells #[.slice q.A0 c.types.length q.d0, .slice q.A1 c.funcs.length q.d1, .slice q.A2 c.globs.length q.d2, .slice q.A3 c.tabs.length q.d3, .slice q.A4 c.mems.length q.d4, .int .i64 c.hosts, .int .i64 c.vars, .int .i64 c.els, .int .i64 c.dats, .bool c.counted] 103)).alloc (.cells #[.int .i64 x.mode, .slice A1 x.off.length c1, .slice A2 x.fs.length c2] 90)).drew) := Lib.hid ((((Below.refl _ _).alloc (Nat.le_refl _) _).alloc (by simp) _).drew)
  have HVS0 : Hid (((w.alloc (.cells #[.slice q.A0 c.types.length q.d0, .slice q.A1 c.funcs.length q.d1, .slice q.A2 c.globs.length q.d2, .slice q.A3 c.tabs.length q.d3, .slice q.A4 c.mems.length q.d4, .int .i64 c.hosts, .int .i64 c.vars, .int .i64 c.els, .int .i64 c.dats, .bool c.counted] 103)).alloc (.cells #[.int .i64 x.mode, .slice A1 x.off.length c1, .slice A2 x.fs.length c2] 90)).drew.heap.size = w.heap.size + 2) := Lib.hid (by simp)
  have hS0 : SL w.heap.size (w.heap.size + 1) q c x.mode A1 x.off.length c1 A2 x.fs.length c2 ((w.alloc (.cells #[.slice q.A0 c.types.length q.d0, .slice q.A1 c.funcs.length q.d1, .slice q.A2 c.globs.length q.d2, .slice q.A3 c.tabs.length q.d3, .slice q.A4 c.mems.length q.d4, .int .i64 c.hosts, .int .i64 c.vars, .int .i64 c.els, .int .i64 c.dats, .bool c.counted] 103)).alloc (.cells #[.int .i64 x.mode, .slice A1 x.off.length c1, .slice A2 x.fs.length c2] 90)).drew := by
    refine ⟨⟨?_, ?_, ?_, ?_, ?_, ?_, ?_, ?_, ?_, ?_⟩, ?_, ?_, ?_⟩ <;> simp
  obtain ⟨e1, he1⟩ : ∃ e, laidE c x.mode x.off c.tabs.length = e := ⟨_, rfl⟩
  obtain ⟨e2, he2⟩ : ∃ e, eachE (entE c) x.fs = e := ⟨_, rfl⟩
  have HLA : Hid (∀ V, Below w.heap.size w V → Calls Try.prog 66 #[.agg #[.slice q.A0 c.types.length q.d0, .slice q.A1 c.funcs.length q.d1, .slice q.A2 c.globs.length q.d2, .slice q.A3 c.tabs.length q.d3, .slice q.A4 c.mems.length q.d4, .int .i64 c.hosts, .int .i64 c.vars, .int .i64 c.els, .int .i64 c.dats, .bool c.counted], .int .i64 x.mode, .slice A1 x.off.length c1, .slice q.A3 c.tabs.length q.d3] V (NumIs V e1)) := Lib.hid fun V hV => he1 ▸ laid_any q c V (hl.below hV) x.off (lst_below ho hV) x.mode _ _ _
  have HEA : Hid (∀ V, Below w.heap.size w V → Calls Try.prog 52 #[.slice A2 x.fs.length c2, .func (.func 67) #[.agg #[.slice q.A0 c.types.length q.d0, .slice q.A1 c.funcs.length q.d1, .slice q.A2 c.globs.length q.d2, .slice q.A3 c.tabs.length q.d3, .slice q.A4 c.mems.length q.d4, .int .i64 c.hosts, .int .i64 c.vars, .int .i64 c.els, .int .i64 c.dats, .bool c.counted]] #[]] V (NumIs V e2)) := Lib.hid fun V hV => he2 ▸ each_int 67 (fun _ _ => rfl) (.agg #[.slice q.A0 c.types.length q.d0, .slice q.A1 c.funcs.length q.d1, .slice q.A2 c.globs.length q.d2, .slice q.A3 c.tabs.length q.d3, .slice q.A4 c.mems.length q.d4, .int .i64 c.hosts, .int .i64 c.vars, .int .i64 c.els, .int .i64 c.dats, .bool c.counted]) V x.fs (entE c) (lst_below hf hV) hn (Lib.hid fun W y _ _ => entry_any q c W y)
  have hE : elE c x = firstE [e1, e2] := by unfold elE; rw [he1, he2]
  rw [hE]
  clear hl ho hf hn he1 he2 hE
  go_enter Try.func55, Try.ntmps55
  go_wp2_with fail
  refine wp_region_held_drew (S := SL w.heap.size (w.heap.size + 1) q c x.mode A1 x.off.length c1 A2 x.fs.length c2) (by kernel_rfl) hS0 (fun hS => ?_)
  generalize ((w.alloc (.cells #[.slice q.A0 c.types.length q.d0, .slice q.A1 c.funcs.length q.d1, .slice q.A2 c.globs.length q.d2, .slice q.A3 c.tabs.length q.d3, .slice q.A4 c.mems.length q.d4, .int .i64 c.hosts, .int .i64 c.vars, .int .i64 c.els, .int .i64 c.dats, .bool c.counted] 103)).alloc (.cells #[.int .i64 x.mode, .slice A1 x.off.length c1, .slice A2 x.fs.length c2] 90)).drew = V at *
  have HBV := HBV0
  have HVS := HVS0
  have HS0 := Lib.hid hS
  have HSB : Hid (∀ v, Below V.heap.size V v → SL w.heap.size (w.heap.size + 1) q c x.mode A1 x.off.length c1 A2 x.fs.length c2 v) := Lib.hid fun v hv => by
    have e : v.heap[w.heap.size + 1]? = V.heap[w.heap.size + 1]? := hv.block _ (by have := HVS.out; omega)
    have h := HS0.out
    exact ⟨boxC_keep h.1 (hv.block _ (by have := HVS.out; omega)), (World.cell?_of_block e).trans h.2.1, (World.cell?_of_block e).trans h.2.2.1, (World.cell?_of_block e).trans h.2.2.2⟩
  clear HBV0 HVS0 hS0
  refine wpAnyH_take (i := 0) (oi := { dst := some 5, op := .load 103 (.tmp 2), type := 103, pos := "look.go:150", after := #[], guard := none }) (v := ?_) rfl (by kernel_rfl) (by kernel_rfl) (by kernel_rfl) (fun _ _ _ h => h) (Or.inl ⟨by rfl, ?_⟩) hS ?_
  rotate_left
  · (intro w' hS'; obtain ⟨⟨s0, s1, s2, s3, s4, s5, s6, s7, s8, s9⟩, s10, s11, s12⟩ := hS'; go_simp) <;> with_reducible rfl
  try simp only [Act.put, List.setIfInBounds_toArray, List.set_cons_zero, List.set_cons_succ]
  refine wpAnyH_take (i := 1) (oi := { dst := some 6, op := .fieldAddr 90 (.tmp 3) 0, type := 0, pos := "look.go:150", after := #[], guard := none }) (v := ?_) rfl (by kernel_rfl) (by kernel_rfl) (by kernel_rfl) (fun _ _ _ h => h) (Or.inl ⟨by rfl, ?_⟩) hS ?_
  rotate_left
  · (intro w' hS'; obtain ⟨⟨s0, s1, s2, s3, s4, s5, s6, s7, s8, s9⟩, s10, s11, s12⟩ := hS'; go_simp) <;> with_reducible rfl
  try simp only [Act.put, List.setIfInBounds_toArray, List.set_cons_zero, List.set_cons_succ]
  refine wpAnyH_take (i := 2) (oi := { dst := some 7, op := .load 3 (.tmp 6), type := 3, pos := "look.go:150", after := #[{ on := 1, ground := .data }], guard := none }) (v := ?_) rfl (by kernel_rfl) (by kernel_rfl) (by kernel_rfl) (fun _ _ _ h => h) (Or.inl ⟨by rfl, ?_⟩) hS ?_
  rotate_left
  · (intro w' hS'; obtain ⟨⟨s0, s1, s2, s3, s4, s5, s6, s7, s8, s9⟩, s10, s11, s12⟩ := hS'; go_simp) <;> with_reducible rfl
  try simp only [Act.put, List.setIfInBounds_toArray, List.set_cons_zero, List.set_cons_succ]
  refine wpAnyH_take (i := 3) (oi := { dst := some 8, op := .fieldAddr 90 (.tmp 3) 1, type := 0, pos := "look.go:150", after := #[], guard := none }) (v := ?_) rfl (by kernel_rfl) (by kernel_rfl) (by kernel_rfl) (fun _ _ _ h => h) (Or.inl ⟨by rfl, ?_⟩) hS ?_
  rotate_left
  · (intro w' hS'; obtain ⟨⟨s0, s1, s2, s3, s4, s5, s6, s7, s8, s9⟩, s10, s11, s12⟩ := hS'; go_simp) <;> with_reducible rfl
  try simp only [Act.put, List.setIfInBounds_toArray, List.set_cons_zero, List.set_cons_succ]
  refine wpAnyH_take (i := 4) (oi := { dst := some 9, op := .load 85 (.tmp 8), type := 85, pos := "look.go:150", after := #[{ on := 3, ground := .data }], guard := none }) (v := ?_) rfl (by kernel_rfl) (by kernel_rfl) (by kernel_rfl) (fun _ _ _ h => h) (Or.inl ⟨by rfl, ?_⟩) hS ?_
  rotate_left
  · (intro w' hS'; obtain ⟨⟨s0, s1, s2, s3, s4, s5, s6, s7, s8, s9⟩, s10, s11, s12⟩ := hS'; go_simp) <;> with_reducible rfl
  try simp only [Act.put, List.setIfInBounds_toArray, List.set_cons_zero, List.set_cons_succ]
  refine wpAnyH_take (i := 5) (oi := { dst := some 10, op := .fieldAddr 103 (.tmp 2) 0, type := 0, pos := "look.go:150", after := #[], guard := none }) (v := ?_) rfl (by kernel_rfl) (by kernel_rfl) (by kernel_rfl) (fun _ _ _ h => h) (Or.inl ⟨by rfl, ?_⟩) hS ?_
  rotate_left
  · (intro w' hS'; obtain ⟨⟨s0, s1, s2, s3, s4, s5, s6, s7, s8, s9⟩, s10, s11, s12⟩ := hS'; go_simp) <;> with_reducible rfl
  try simp only [Act.put, List.setIfInBounds_toArray, List.set_cons_zero, List.set_cons_succ]
  refine wpAnyH_take (i := 6) (oi := { dst := some 11, op := .fieldAddr 66 (.tmp 10) 3, type := 0, pos := "look.go:150", after := #[{ on := 5, ground := .data }], guard := none }) (v := ?_) rfl (by kernel_rfl) (by kernel_rfl) (by kernel_rfl) (fun _ _ _ h => h) (Or.inl ⟨by rfl, ?_⟩) hS ?_
  rotate_left
  · (intro w' hS'; obtain ⟨⟨s0, s1, s2, s3, s4, s5, s6, s7, s8, s9⟩, s10, s11, s12⟩ := hS'; go_simp) <;> with_reducible rfl
  try simp only [Act.put, List.setIfInBounds_toArray, List.set_cons_zero, List.set_cons_succ]
  refine wpAnyH_take (i := 7) (oi := { dst := some 12, op := .load 45 (.tmp 11), type := 45, pos := "look.go:150", after := #[{ on := 6, ground := .data }], guard := none }) (v := ?_) rfl (by kernel_rfl) (by kernel_rfl) (by kernel_rfl) (fun _ _ _ h => h) (Or.inl ⟨by rfl, ?_⟩) hS ?_
  rotate_left
  · (intro w' hS'; obtain ⟨⟨s0, s1, s2, s3, s4, s5, s6, s7, s8, s9⟩, s10, s11, s12⟩ := hS'; go_simp) <;> with_reducible rfl
  try simp only [Act.put, List.setIfInBounds_toArray, List.set_cons_zero, List.set_cons_succ]
  refine wpAnyH_take (i := 9) (oi := { dst := some 14, op := .fieldAddr 90 (.tmp 3) 2, type := 0, pos := "look.go:150", after := #[], guard := none }) (v := ?_) rfl (by kernel_rfl) (by kernel_rfl) (by kernel_rfl) (fun _ _ _ h => h) (Or.inl ⟨by rfl, ?_⟩) hS ?_
  rotate_left
  · (intro w' hS'; obtain ⟨⟨s0, s1, s2, s3, s4, s5, s6, s7, s8, s9⟩, s10, s11, s12⟩ := hS'; go_simp) <;> with_reducible rfl
  try simp only [Act.put, List.setIfInBounds_toArray, List.set_cons_zero, List.set_cons_succ]
  refine wpAnyH_take (i := 10) (oi := { dst := some 15, op := .load 23 (.tmp 14), type := 23, pos := "look.go:150", after := #[{ on := 9, ground := .data }], guard := none }) (v := ?_) rfl (by kernel_rfl) (by kernel_rfl) (by kernel_rfl) (fun _ _ _ h => h) (Or.inl ⟨by rfl, ?_⟩) hS ?_
  rotate_left
  · (intro w' hS'; obtain ⟨⟨s0, s1, s2, s3, s4, s5, s6, s7, s8, s9⟩, s10, s11, s12⟩ := hS'; go_simp) <;> with_reducible rfl
  try simp only [Act.put, List.setIfInBounds_toArray, List.set_cons_zero, List.set_cons_succ]
  refine wpAnyH_take (i := 11) (oi := { dst := some 16, op := .load 103 (.tmp 2), type := 103, pos := "look.go:150", after := #[], guard := none }) (v := ?_) rfl (by kernel_rfl) (by kernel_rfl) (by kernel_rfl) (fun _ _ _ h => h) (Or.inl ⟨by rfl, ?_⟩) hS ?_
  rotate_left
  · (intro w' hS'; obtain ⟨⟨s0, s1, s2, s3, s4, s5, s6, s7, s8, s9⟩, s10, s11, s12⟩ := hS'; go_simp) <;> with_reducible rfl
  try simp only [Act.put, List.setIfInBounds_toArray, List.set_cons_zero, List.set_cons_succ]
  refine wpAnyH_take (i := 12) (oi := { dst := some 17, op := .makeFunc (.func 67) #[.tmp 16] #[], type := 116, pos := "look.go:150", after := #[{ on := 11, ground := .data }], guard := none }) (v := ?_) rfl (by kernel_rfl) (by kernel_rfl) (by kernel_rfl) (fun _ _ _ h => h) (Or.inl ⟨by rfl, ?_⟩) hS ?_
  rotate_left
  · (intro w' hS'; obtain ⟨⟨s0, s1, s2, s3, s4, s5, s6, s7, s8, s9⟩, s10, s11, s12⟩ := hS'; go_simp) <;> with_reducible rfl
  try simp only [Act.put, List.setIfInBounds_toArray, List.set_cons_zero, List.set_cons_succ]
  refine wpAnyH_ready (rs := [8]) (by kernel_rfl) (by simp) ?_
  refine AllReadyH.cons (o := { dst := some 13, op := .call { callee := .value (.func 66), args := #[.tmp 5, .tmp 7, .tmp 9, .tmp 12], argTypes := #[103, 3, 85, 45] }, type := 40, pos := "look.go:150", after := #[{ on := 0, ground := .data }, { on := 2, ground := .data }, { on := 4, ground := .data }, { on := 7, ground := .data }], guard := none }) rfl (fun K' hK => ?_) (AllReadyH.nil)
  go_simp
  refine (HLA.out V HBV.out).mono ?_
  rintro en V1 ⟨rfl, hb1⟩
  have HB1 := Lib.hid (HBV.out.trans (hb1.mono HBV.out.size))
  have HS1 := Lib.hid (HSB.out V1 hb1)
  have HBV1 := Lib.hid hb1
  clear hb1
  go_wp2_with fail
  refine hK.out _ _ HS1.out (fun hS => ?_)
  clear hK K'
  try simp only [Act.put, List.setIfInBounds_toArray, List.set_cons_zero, List.set_cons_succ]
  refine wpAnyH_ready (rs := [13]) (by kernel_rfl) (by simp) ?_
  refine AllReadyH.cons (o := { dst := some 18, op := .call { callee := .value (.func 52), args := #[.tmp 15, .tmp 17], argTypes := #[23, 116] }, type := 40, pos := "look.go:150", after := #[{ on := 10, ground := .data }, { on := 12, ground := .data }, { on := 8, ground := .chain }], guard := none }) rfl (fun K' hK => ?_) (AllReadyH.nil)
  go_simp
  refine (HEA.out V1 HB1.out).mono ?_
  rintro en V2 ⟨rfl, hb2⟩
  have HB2 := Lib.hid (HB1.out.trans (hb2.mono HB1.out.size))
  have HBV2 := Lib.hid (HBV1.out.trans (hb2.mono HBV1.out.size))
  have HS2 := Lib.hid (HSB.out V2 HBV2.out)
  have HS3 := Lib.hid (HSB.out (V2.alloc (.cells #[.int .i64 e1, .int .i64 e2] 40)) (HBV2.out.trans (((Below.refl _ _).alloc (Nat.le_refl _) _).mono HBV2.out.size)))
  have HFI := Lib.hid (first_any (V2.alloc (.cells #[.int .i64 e1, .int .i64 e2] 40)) [e1, e2] (own_lst (R := intR) (ok := fun _ => True) iv (fun _ => rfl) (World.ownsRow_lit V2 #[.int .i64 e1, .int .i64 e2] 2 (Nat.le_refl _) (by simp only [maxLen]; omega) rfl) rfl (fun _ _ => trivial)) (by simp))
  clear hb2
  go_wp2_with fail
  refine hK.out _ _ HS2.out (fun hS => ?_)
  clear hK K'
  try simp only [Act.put, List.setIfInBounds_toArray, List.set_cons_zero, List.set_cons_succ]
  refine wpAnyH_ready (rs := [14]) (by kernel_rfl) (by simp) ?_
  refine AllReadyH.cons (o := { dst := some 19, op := .buildSlice 125 2 #[(0, .tmp 13), (1, .tmp 18)], type := 125, pos := "look.go:150", after := #[{ on := 8, ground := .data }, { on := 13, ground := .data }], guard := none }) rfl (fun K' hK => ?_) (AllReadyH.nil)
  go_simp
  refine hK.out _ _ HS3.out (fun hS => ?_)
  clear hK K'
  try simp only [Act.put, List.setIfInBounds_toArray, List.set_cons_zero, List.set_cons_succ]
  refine wpAnyH_ready (rs := [15]) (by kernel_rfl) (by simp) ?_
  refine AllReadyH.cons (o := { dst := some 20, op := .call { callee := .value (.func 40), args := #[.tmp 19], argTypes := #[125] }, type := 40, pos := "look.go:150", after := #[{ on := 14, ground := .data }, { on := 13, ground := .chain }], guard := none }) rfl (fun K' hK => ?_) (AllReadyH.nil)
  go_simp
  refine HFI.out.mono ?_
  rintro en V3 ⟨rfl, rfl⟩
  go_wp2_with fail
  refine hK.out _ _ HS3.out (fun hS => ?_)
  clear hK K'
  try simp only [Act.put, List.setIfInBounds_toArray, List.set_cons_zero, List.set_cons_succ]
  refine wpAnyH_take (i := 16) (oi := { dst := some 4, op := .assign (.tmp 20), type := 40, pos := "look.go:150", after := #[{ on := 15, ground := .data }, { on := 15, ground := .chain }, { on := 0, ground := .phase }, { on := 1, ground := .phase }, { on := 2, ground := .phase }, { on := 3, ground := .phase }, { on := 4, ground := .phase }, { on := 5, ground := .phase }, { on := 6, ground := .phase }, { on := 7, ground := .phase }, { on := 8, ground := .phase }, { on := 9, ground := .phase }, { on := 10, ground := .phase }, { on := 11, ground := .phase }, { on := 12, ground := .phase }, { on := 13, ground := .phase }, { on := 14, ground := .phase }, { on := 15, ground := .phase }], guard := none }) (v := ?_) rfl (by kernel_rfl) (by kernel_rfl) (by kernel_rfl) (fun _ _ _ h => h) (Or.inl ⟨by rfl, ?_⟩) hS ?_
  rotate_left
  · (intro w' hS'; obtain ⟨⟨s0, s1, s2, s3, s4, s5, s6, s7, s8, s9⟩, s10, s11, s12⟩ := hS'; go_simp) <;> with_reducible rfl
  try simp only [Act.put, List.setIfInBounds_toArray, List.set_cons_zero, List.set_cons_succ]
  refine wpAnyH_done (by kernel_rfl) ?_ _
  go_wp2
  go_ret
  exact ⟨rfl, HB2.out.trans (((Below.refl _ _).alloc (Nat.le_refl _) _).mono HB2.out.size)⟩
end
end Go.Proofs.Ytdcolpmmojiffaa.Cx
