/-
  sect.Join: what it answers is joinRes. Conditions: the slice leads to sections, at most 1000, of at most 10^9 bytes together.
-/
import Derived.Test.YtelcoeeijkainaaDoorSecAppB
import Derived.Test.YtelcoeeijkainaaDoorSecRJoin
import Derived.Test.YtelcoeeijkainaaDoorSecOrd
namespace Go.Proofs.YtelcoeeijkainaaDoor.Sec
open Go.RowKit Leb

/-- A box that holds a section. -/
def BoxS (w : World) (b : Nat) (id : Int) (v : Value) : Prop := b < w.heap.size ∧ w.cell? ⟨b, 0, none⟩ = some (.int .i64 id) ∧ w.cell? ⟨b, 1, none⟩ = some v
theorem BoxS.step {w w' : World} {b : Nat} {id : Int} {v : Value} (h : BoxS w b id v) (hs : w.heap.size ≤ w'.heap.size) (hh : w'.heap[b]? = w.heap[b]?) : BoxS w' b id v := by
  obtain ⟨h0, h1, h2⟩ := h
  have C : ∀ i, w'.cell? ⟨b, i, none⟩ = w.cell? ⟨b, i, none⟩ := fun i => World.cell?_of_block hh
  exact ⟨Nat.lt_of_lt_of_le h0 hs, (C _).trans h1, (C _).trans h2⟩
theorem BoxS.keep {w w' : World} {b : Nat} {id : Int} {v : Value} (h : BoxS w b id v) (hb : Below w.heap.size w w') : BoxS w' b id v := h.step hb.size (hb.block _ h.1)
theorem BoxS.new (w : World) (t : TypeId) (id : Int) (v : Value) : BoxS (w.alloc (.cells #[.int .i64 id, v] t)) w.heap.size id v := ⟨by simp, by simp, by simp⟩
theorem OwnH.lt {w : World} {base : Nat} {v : Value} {l : List Nat} (h : OwnH w base v l) : ∀ k, v.ownBlock = some k → k < w.heap.size := by
  intro k hk
  rcases h with h | ⟨g, rfl, h1, h2, h3⟩
  · exact h.lt k hk
  · obtain ⟨b, off, e, hb, _⟩ := h2.2 h3
    injection e with e
    injection e with e
    have : g = k := by simpa [Value.ownBlock] using hk
    omega
theorem join_sums (m0 m1 m2 m3 pl n : Nat) (h0 : m0 ≤ 65536) (hp : pl ≤ 10) (hn : n ≤ 1000000) (e1 : m0 + 1 = m1) (e2 : m1 + pl = m2) (e3 : m2 + n = m3) :
    wrap64 ((m0 : Int) + 1) = (m1 : Int) ∧ wrap64 ((m1 : Int) + (pl : Int)) = (m2 : Int) ∧ wrap64 ((m2 : Int) + (n : Int)) = (m3 : Int) ∧ m1 ≤ 140737488355328 ∧ m2 ≤ 140737488355328 ∧ m3 ≤ 140737488355328 := by
  subst e1 e2 e3
  refine ⟨?_, ?_, ?_, by omega, by omega, by omega⟩
  · rw [IntWalk.wrap64_in _ (by omega)]; omega
  · rw [IntWalk.wrap64_in _ (by omega)]; omega
  · rw [IntWalk.wrap64_in _ (by omega)]; omega
theorem join_lens {K0 pu sb : List Nat} {k m0 m1 m2 m3 pl n : Nat} (h0 : K0.length = m0) (hp : pu.length = pl) (hn : sb.length = n) (e1 : m0 + 1 = m1) (e2 : m1 + pl = m2) (e3 : m2 + n = m3) : (K0 ++ [k]).length = m1 ∧ (K0 ++ [k] ++ pu).length = m2 ∧ (K0 ++ [k] ++ pu ++ sb).length = m3 := by
  subst h0 hp hn e1 e2 e3
  exact ⟨by simp, by simp; omega, by simp; omega⟩
set_option maxHeartbeats 1000000 in
set_option maxRecDepth 100000 in
theorem ojoin_any (A : Option Addr) (l : List Sec) (c : Nat) (w : World) (hs : Sli w w.heap.size A c l) (hl : (l.length : Int) ≤ 1000) (hb : (joinBytes l).length ≤ 1000000000) (hz : ∀ s ∈ l, s.b.length ≤ 1000000) : Calls Tryd.prog 10 #[.slice A l.length c] w fun e w' => JoinIs w (joinRes l) (joinRes l).1.length e w' := by
  have HS := Lib.hid hs
  have HB := Lib.hid hb
  have HL := Lib.hid hl
  have HZ := Lib.hid hz
  have HR2 : Hid (order l = false → joinRes l = ([], 2)) := Lib.hid fun h => by unfold joinRes; rw [if_pos h]
  have HR4 : Hid (order l = true → 65536 < (joinBytes l).length → joinRes l = ([], 4)) := Lib.hid fun h h2 => by unfold joinRes; rw [if_neg (by rw [h]; simp), if_pos h2]
  have HR0 : Hid (order l = true → ¬ 65536 < (joinBytes l).length → joinRes l = (joinBytes l, 0)) := Lib.hid fun h h2 => by unfold joinRes; rw [if_neg (by rw [h]; simp), if_neg h2]
  have hA0 : Below w.heap.size w (w.alloc (.cells #[.int .i64 0] 52)) := (Below.refl _ _).alloc (Nat.le_refl _) _
  have HO0 := Lib.hid (And.intro (OrdAt.new w 52) hA0)
  generalize joinRes l = R at *
  clear hs hb hz hA0
  go_enter Tryd.func10, Tryd.ntmps10
  go_wp2_with fail
  go_loopw [13] (fun x wr => ∃ (j : Nat) (last : Int), j ≤ l.length ∧ x = .int .i64 (j : Int) ∧ Hid (OrdAt wr w.heap.size last ∧ Below w.heap.size w wr) ∧ Hid (orderF (l.take j) (l.drop j) = order l ∧ LastIs (l.take j) last)) (fun i _ => l.length - (intOf i).toNat)
  case atStart => exact ⟨0, 0, Nat.zero_le _, by go_num, HO0, Lib.hid ⟨rfl, last_nil⟩⟩
  case round =>
    obtain ⟨j, last, hj, rfl, HW, HO⟩ := hrel
    clear HO0
    by_cases hjl : j < l.length
    · have hji : (j : Int) < (l.length : Int) := by omega
      obtain ⟨b, off, rfl, hb, hc⟩ := HS.out.secs (by omega)
      obtain ⟨SA, sc, q0, q1, _, _, _⟩ := hc j hjl
      have d0 := (HW.out.2.cell (p := ⟨b, off + j * 2, none⟩) hb).trans q0
      have d1 := (HW.out.2.cell (p := ⟨b, off + j * 2 + 1, none⟩) hb).trans q1
      have hA : Below wr.heap.size wr (wr.alloc (.cells #[.int .i64 l[j].id, .slice SA l[j].b.length sc] 38)) := (Below.refl _ _).alloc (Nat.le_refl _) _
      have HT := Lib.hid (take_any _ w.heap.size last l[j].id (HW.out.1.keep hA))
      have HBB := Lib.hid (HW.out.2.trans (hA.mono HW.out.2.size))
      have hmy := HO.out.2.may l[j].id
      have hOA := order_at l j hjl
      rw [HO.out.1] at hOA
      by_cases ht : takeB last l[j].id = true
      · rw [ht] at HT hmy
        rw [hmy, Bool.true_and] at hOA
        have HN : Hid (orderF (l.take (j + 1)) (l.drop (j + 1)) = order l ∧ LastIs (l.take (j + 1)) (takeL last l[j].id)) := Lib.hid ⟨hOA.symm, by rw [List.take_succ_eq_append_getElem hjl]; exact HO.out.2.next l[j] ht⟩
        clear hc q0 q1 hA hmy hOA HR2 HR4 HR0 HO ht HW
        generalize l[j].id = id at *
        generalize l[j].b.length = n at *
        go_wp2_with fail
        refine HT.out.mono ?_
        rintro e1 w2 ⟨rfl, ho2, hg2⟩
        have HF : Hid (OrdAt w2 w.heap.size (takeL last id) ∧ Below w.heap.size w w2) := Lib.hid ⟨ho2, HBB.out.grown hg2 HBB.out.size (fun i e => by injection e with e; omega)⟩
        clear ho2 hg2 HT HBB d0 d1
        go_wp2_with fail
        go_roundw
        case rel => exact ⟨j + 1, _, by omega, by go_num, HF, HN⟩
        case measure => simp [intOf]; omega
      · have ht2 : takeB last l[j].id = false := by simpa using ht
        rw [ht2] at HT hmy
        rw [hmy, Bool.false_and] at hOA
        have HE := Lib.hid (HR2.out hOA)
        clear hc q0 q1 hA hmy hOA HR2 HR4 HR0 HO ht ht2 HW
        generalize l[j].id = id at *
        generalize l[j].b.length = n at *
        go_wp2_with fail
        refine HT.out.mono ?_
        rintro e1 w2 ⟨rfl, ho2, hg2⟩
        have HF := Lib.hid (HBB.out.grown hg2 HBB.out.size (fun i e => by injection e with e; omega))
        clear ho2 hg2 HT HBB d0 d1
        go_wp2
        go_ret2
        rw [HE.out]
        exact joinIs_nil _ _ _ HF.out
    · obtain rfl : j = l.length := by omega
      have hji : ¬ (l.length : Int) < (l.length : Int) := by omega
      have hord : order l = true := by have := HO.out.1; rw [List.take_length, List.drop_length] at this; rw [← this]; rfl
      have hids := HO.out.2.ids
      rw [List.take_length] at hids
      have HI := Lib.hid hids
      have HK := Lib.hid (And.intro (HR4.out hord) (HR0.out hord))
      have HO1 := Lib.hid (And.intro (head_h wr 5) (HW.out.2.alloc HW.out.2.size (.cells #[.int .u8 0, .int .u8 97, .int .u8 115, .int .u8 109, .int .u8 1, .int .u8 0, .int .u8 0, .int .u8 0] 5 (8, 9))))
      have HWS := Lib.hid HW.out.2.size
      clear HR2 HR4 HR0 HO hids hord HW
      have kc := fun (w : World) (C : Array Value) (n c : Nat) => Lib.run_convert_bytes_const (P := Tryd.prog) w 22 5 C n c Tryd.underlying22 Tryd.underlying5
      go_wp2_with fail
      clear kc
      go_loopw [7, 26] (fun x5 x6 wr => ∃ (j : Nat) (v : Value), j ≤ l.length ∧ x5 = v ∧ x6 = .int .i64 (j : Int) ∧ Hid (OwnH wr w.heap.size v (joinBytes (l.take j)) ∧ Below w.heap.size w wr ∧ (joinBytes (l.take j)).length ≤ 65536)) (fun _ i _ => l.length - (intOf i).toNat)
      case atStart => exact ⟨0, _, Nat.zero_le _, rfl, by go_num, Lib.hid ⟨HO1.out.1.from HWS.out, HO1.out.2, by rw [List.take_zero]; decide⟩⟩
      case round =>
        obtain ⟨j, v, hj, rfl, rfl, HJ⟩ := hrel
        clear HO1 HWS
        have hmem0 : ∀ x ∈ joinBytes (l.take j), x < 256 := join_mem _ (fun s hs => HI.out s (List.mem_of_mem_take hs)) (fun s hs => HS.out.mem s (List.mem_of_mem_take hs))
        obtain ⟨A1, c1, hv, hslc⟩ := HJ.out.1.slc hmem0
        by_cases hjl : j < l.length
        · have hji : (j : Int) < (l.length : Int) := by omega
          obtain ⟨b, off, rfl, hb, hc⟩ := HS.out.secs (by omega)
          obtain ⟨SA, sc, q0, q1, q2, q3, q4⟩ := hc j hjl
          have hid := HI.out _ (List.getElem_mem hjl)
          have hzb := HZ.out _ (List.getElem_mem hjl)
          have hJA := join_at l j hjl
          have hLE := join_le l (j + 1)
          have hbytes : Bytes w w.heap.size SA l[j].b := q2
          have hbl := HJ.out.2.2
          obtain ⟨k, hk⟩ : ∃ k : Nat, l[j].id = (k : Int) := ⟨l[j].id.toNat, by omega⟩
          have hk12 : k ≤ 12 := by omega
          rw [hk] at q0
          rw [hk, Int.toNat_natCast] at hJA
          have x0 := (HJ.out.2.1.cell (p := ⟨b, off + j * 2, none⟩) hb).trans q0
          have x1 := (HJ.out.2.1.cell (p := ⟨b, off + j * 2 + 1, none⟩) hb).trans q1
          generalize l[j].b = sb at *
          generalize hn : sb.length = n at *
          have hwk : IntKind.u8.wrap (k : Int) = (k : Int) := IntWalk.u8_in _ (by omega)
          have hwn : IntKind.u64.wrap (n : Int) = (n : Int) := IntWalk.u64_in _ (by omega)
          obtain ⟨K0, hK0⟩ : ∃ K0, joinBytes (l.take j) = K0 := ⟨_, rfl⟩
          obtain ⟨K1, hK1⟩ : ∃ K1, joinBytes (l.take (j + 1)) = K1 := ⟨_, rfl⟩
          rw [hK0] at hmem0 hJA HJ hv hslc hbl
          rw [hK1] at hJA hLE
          have hpu : (putU n).length ≤ 10 := (putUf_len 9 n).2
          have HP := Lib.hid (fun W (_ : True) => putU_nil n (putU n).length W (by omega) rfl)
          have hpub : ∀ x ∈ putU n, x < 256 := putUf_byte 9 n
          have hpos : 0 < (putU n).length := (putUf_len 9 n).1
          generalize putU n = pu at *
          obtain ⟨pl, hpl⟩ : ∃ pl, pu.length = pl := ⟨_, rfl⟩
          rw [hpl] at HP hpu
          obtain ⟨m0, hm0⟩ : ∃ m0, K0.length = m0 := ⟨_, rfl⟩
          obtain ⟨m1, hm1⟩ : ∃ m1, m0 + 1 = m1 := ⟨_, rfl⟩
          obtain ⟨m2, hm2⟩ : ∃ m2, m1 + pl = m2 := ⟨_, rfl⟩
          obtain ⟨m3, hm3⟩ : ∃ m3, m2 + n = m3 := ⟨_, rfl⟩
          have hjs := join_sums m0 m1 m2 m3 pl n (by rw [← hm0]; exact hbl) hpu hzb hm1 hm2 hm3
          obtain ⟨g1, g2, g3⟩ := join_lens (k := k) hm0 hpl hn hm1 hm2 hm3
          have HJS := Lib.hid (And.intro hjs.1 (And.intro hjs.2.1 hjs.2.2.1))
          have hKK : K1 = K0 ++ [k] ++ pu ++ sb := by rw [hJA]; simp
          have HLN : Hid ((K0 ++ [k]).length = m1 ∧ (K0 ++ [k] ++ pu).length = m2 ∧ (K0 ++ [k] ++ pu ++ sb).length = m3 ∧ m1 ≤ 140737488355328 ∧ m2 ≤ 140737488355328 ∧ m3 ≤ 140737488355328 ∧ K1.length = m3) := Lib.hid ⟨g1, g2, g3, hjs.2.2.2.1, hjs.2.2.2.2.1, hjs.2.2.2.2.2, by rw [hKK]; exact g3⟩
          have HY1 : Hid (∀ x ∈ K0 ++ [k], x < 256) := Lib.hid fun x hx => by
            rcases List.mem_append.1 hx with h | h
            · exact hmem0 x h
            · have : x = k := by simpa using h
              omega
          have HY2 : Hid (∀ x ∈ K0 ++ [k] ++ pu, x < 256) := Lib.hid fun x hx => by
            rcases List.mem_append.1 hx with h | h
            · exact HY1.out x h
            · exact hpub x h
          have HKK : Hid (joinBytes (l.take (j + 1)) = K0 ++ [k] ++ pu ++ sb) := Lib.hid (by rw [hK1]; exact hKK)
          have HBIG : Hid (65536 < m3 → R = ([], 4)) := Lib.hid fun h => HK.out.1 (by have h1 := HLN.out.2.2.2.2.2.2; rw [h1] at hLE; exact Nat.lt_of_lt_of_le h hLE)
          have HN := Lib.hid (And.intro hn (And.intro q4 (And.intro hk12 (And.intro hmem0 (And.intro hpl hpos)))))
          have HSB : Hid (∀ W, Below w.heap.size w W → Bytes W w.heap.size SA sb) := Lib.hid fun W hW => hbytes.below hW
          have hA1 : Below wr.heap.size wr (wr.alloc (.cells #[.int .i64 (k : Int), .slice SA n sc] 38)) := (Below.refl _ _).alloc (Nat.le_refl _) _
          have HBX := Lib.hid (BoxS.new wr 38 (k : Int) (.slice SA n sc))
          have HOW := Lib.hid (And.intro (ownH_keep HJ.out.1 hA1) (And.intro (HJ.out.2.1.trans (hA1.mono HJ.out.2.1.size)) HJ.out.1.lt))
          rw [hm0] at hv
          subst hv
          clear hc q0 q1 q2 q3 q4 hid hJA hLE hmem0 hk hk12 hbytes hK0 hpu hpl hzb HK HI hn hK1 hslc hbl hpub hpos hm0 hm1 hm2 hm3 hA1 HJ hjs g1 g2 g3 hKK
          go_wp2_with fail
          refine (HP.out _ trivial).mono ?_
          rintro en w2 ⟨A2, c2, rfl, hown2, hby2, hn2, hr2, hb2⟩
          have HB2 := Lib.hid (HOW.out.2.1.trans (hb2.mono HOW.out.2.1.size))
          have HOW2 := Lib.hid (ownH_keep HOW.out.1 hb2)
          have hbx2 := HBX.out.keep hb2
          obtain ⟨pb, po, rfl, hpbl, _⟩ := hby2.2 HN.out.2.2.2.2.2
          have hpb1 := (World.ownsRow.lt hown2 pb rfl).1
          have hszA : (wr.alloc (.cells #[.int .i64 (k : Int), .slice SA n sc] 38)).heap.size = wr.heap.size + 1 := by simp
          have hsz2 := hb2.size
          have HPB := Lib.hid hby2
          have HOFF : Hid (∀ b ∈ [wr.heap.size, pb], b < w2.heap.size ∧ (Value.slice A1 m0 c1).ownBlock ≠ some b) := Lib.hid fun b hb => by
            simp only [List.mem_cons, List.not_mem_nil, or_false] at hb
            rcases hb with rfl | rfl
            · exact ⟨by omega, fun e => by have := HOW.out.2.2 _ e; omega⟩
            · exact ⟨hpbl, fun e => by have := HOW.out.2.2 _ e; omega⟩
          obtain ⟨b0, b1, b2⟩ := hbx2
          have HBX2 : Hid (BoxS w2 wr.heap.size (k : Int) (.slice SA n sc)) := Lib.hid ⟨b0, b1, b2⟩
          clear hown2 hby2 hn2 hr2 hb2 HP HOW HBX x0 x1 hpbl hpb1 hszA hsz2
          go_upto_if 45 with fail
          obtain ⟨hw1, hw2, hw3⟩ := HJS.out
          simp only [hw1, hw2, hw3]
          clear hw1 hw2 hw3 HJS
          by_cases hbig : 65536 < m3
          · have hbi : 65536 < (m3 : Int) := by omega
            have HE := Lib.hid (HBIG.out hbig)
            go_wp2
            go_ret2
            rw [HE.out]
            exact joinIs_nil _ _ _ HB2.out
          · have hbi : ¬ 65536 < (m3 : Int) := by omega
            have hAL : Below w2.heap.size w2 (w2.alloc (.cells #[.int .u8 (k : Int)] 5)) := (Below.refl _ _).alloc (Nat.le_refl _) _
            have HA2 := Lib.hid (And.intro (ownH_keep HOW2.out hAL) (And.intro (bytes_one w2 k (by have := HN.out.2.2.1; omega) 5) (HB2.out.trans (hAL.mono HB2.out.size))))
            have HBX3 := Lib.hid (HBX2.out.keep hAL)
            have HPB3 := Lib.hid (HPB.out.below hAL)
            have hbs : w.heap.size ≤ (w2.alloc (.cells #[.int .u8 (k : Int)] 5)).heap.size := HA2.out.2.2.size
            have HOFF3 : Hid (∀ b ∈ [wr.heap.size, pb], b < (w2.alloc (.cells #[.int .u8 (k : Int)] 5)).heap.size ∧ (Value.slice A1 m0 c1).ownBlock ≠ some b) := Lib.hid fun b hb => ⟨Nat.lt_of_lt_of_le (HOFF.out b hb).1 hAL.size, (HOFF.out b hb).2⟩
            have HZ1 : Hid ((0 < 1 ∨ Own (w2.alloc (.cells #[.int .u8 (k : Int)] 5)) w.heap.size (.slice A1 m0 c1) K0) ∧ wr.heap.size ∈ [wr.heap.size, pb] ∧ pb ∈ [wr.heap.size, pb]) := Lib.hid ⟨.inl (by omega), by simp, by simp⟩
            clear hAL HBIG HOW2 HOFF HPB
            go_wp2_with (at_builtin; first | (refine app_hb rfl (.tmp 46) (.tmp 50) rfl w.heap.size _ K0 rfl HA2.out.1 HN.out.2.2.2.1 (some ⟨w2.heap.size, 0, none⟩) [k] 1 1 _ m1 rfl rfl HA2.out.2.1 (by simp) HZ1.out.1 HLN.out.1 HLN.out.2.2.2.1 hbs [wr.heap.size, pb] HOFF3.out ?_; intro A3 c3 w3 hown3 hof3 hbk3 hb3 hsz3; have HBX4 := Lib.hid (HBX3.out.step hsz3 (hbk3 _ HZ1.out.2.1)); obtain ⟨y0, y1, y2⟩ := HBX4.out; have HPB4 := Lib.hid (bytes_same HPB3.out (hbk3 _ HZ1.out.2.2)); have HB4 := Lib.hid (HA2.out.2.2.trans hb3); have HO4 := Lib.hid hown3; have HOFF4 := Lib.hid hof3; have hbs4 := HB4.out.size; clear hown3 hof3 hbk3 hb3 hsz3 b0 b1 b2) | (refine app_hb rfl (.tmp 52) (.tmp 53) rfl w.heap.size _ (K0 ++ [k]) rfl (.inl HO4.out) HY1.out (some ⟨pb, po, none⟩) pu pl c2 _ m2 HN.out.2.2.2.2.1 rfl HPB4.out (fun h => by cases h) (.inr HO4.out) HLN.out.2.1 HLN.out.2.2.2.2.1 hbs4 [wr.heap.size, pb] HOFF4.out ?_; intro A5 c5 w5 hown5 hof5 hbk5 hb5 hsz5; have HBX6 := Lib.hid (HBX4.out.step hsz5 (hbk5 _ HZ1.out.2.1)); obtain ⟨z0, z1, z2⟩ := HBX6.out; have HB6 := Lib.hid (HB4.out.trans hb5); have HO6 := Lib.hid hown5; have HOFF6 := Lib.hid hof5; have hbs6 := HB6.out.size; have HSB6 := Lib.hid (HSB.out _ HB6.out); clear hown5 hof5 hbk5 hb5 hsz5 y0 y1 y2) | (refine app_hb rfl (.tmp 55) (.tmp 57) rfl w.heap.size _ (K0 ++ [k] ++ pu) rfl (.inl HO6.out) HY2.out SA sb n sc _ m3 HN.out.1 rfl HSB6.out HN.out.2.1 (.inr HO6.out) HLN.out.2.2.1 HLN.out.2.2.2.2.2.1 hbs6 [wr.heap.size, pb] HOFF6.out ?_; intro A7 c7 w7 hown7 hof7 hbk7 hb7 hsz7))
            have HF : Hid (OwnH w7 w.heap.size (.slice A7 m3 c7) (joinBytes (l.take (j + 1))) ∧ Below w.heap.size w w7 ∧ (joinBytes (l.take (j + 1))).length ≤ 65536) := Lib.hid ⟨.inl (by rw [HKK.out]; exact hown7), HB6.out.trans hb7, by rw [HKK.out, HLN.out.2.2.1]; omega⟩
            clear hown7 hof7 hbk7 hb7 hsz7 z0 z1 z2
            go_roundw
            case rel => exact ⟨j + 1, _, by omega, rfl, by go_num, HF⟩
            case measure => simp [intOf]; omega
        · obtain rfl : j = l.length := by omega
          have hji : ¬ (l.length : Int) < (l.length : Int) := by omega
          have hJ := HJ.out
          rw [List.take_length] at hJ hv hslc
          have HE := Lib.hid (HK.out.2 (by omega))
          have HF : Hid (JoinIs w (joinBytes l, 0) (joinBytes l).length (.returned (.tuple #[.slice A1 (joinBytes l).length c1, .int .i64 0])) wr) := Lib.hid ⟨A1, c1, rfl, hslc, rfl, hJ.2.1⟩
          subst hv
          clear hslc hJ HJ HK hmem0
          go_wp2
          go_ret2
          rw [HE.out]
          exact HF.out
end Go.Proofs.YtelcoeeijkainaaDoor.Sec
