/-
  trammelref07.Join: what it answers is joinRes. Conditions: the slice leads to sections, at most 1000, of at most 10^9 bytes together.
-/
import Derived.Test.YtelcoeeijkainaaSecApp
import Derived.Test.YtelcoeeijkainaaLebRefPut
import Derived.Deep.DeepCutAuto
namespace Go.Proofs.Ytelcoeeijkainaa.Sec
open Go.RowKit Leb

/-- What a join answers. -/
def JoinIs (w : World) (r : List Nat × Nat) (n : Nat) (e : Ending) (w' : World) : Prop := ∃ A c, e = .returned (.tuple #[.slice A n c, .int .i64 (r.2 : Int)]) ∧ Slc w' w'.heap.size A c r.1 ∧ r.1.length = n ∧ Below w.heap.size w w'
theorem joinIs_nil (w w' : World) (e : Nat) (h : Below w.heap.size w w') : JoinIs w ([], e) 0 (.returned (.tuple #[.slice none 0 0, .int .i64 (e : Int)])) w' := ⟨none, 0, rfl, ⟨⟨by simp, by simp⟩, fun _ => rfl, Nat.le_refl _⟩, rfl, h⟩
theorem order_at (l : List Sec) (j : Nat) (hj : j < l.length) : orderF (l.take j) (l.drop j) = (may (l.take j) l[j].id && orderF (l.take (j + 1)) (l.drop (j + 1))) := by
  rw [List.drop_eq_getElem_cons hj, orderF, List.take_succ_eq_append_getElem hj]
theorem join_at (l : List Sec) (j : Nat) (hj : j < l.length) : joinBytes (l.take (j + 1)) = joinBytes (l.take j) ++ (l[j].id.toNat :: (putU l[j].b.length ++ l[j].b)) := by
  unfold joinBytes secsBytes
  rw [List.take_succ_eq_append_getElem hj]
  simp only [List.flatMap_append, List.flatMap_cons, List.flatMap_nil, List.append_nil, List.append_assoc, secBytes]
theorem join_le (l : List Sec) (j : Nat) : (joinBytes (l.take j)).length ≤ (joinBytes l).length := by
  have h : joinBytes l = joinBytes (l.take j) ++ secsBytes (l.drop j) := by
    have h2 := congrArg joinBytes (List.take_append_drop j l)
    rw [← h2]
    simp only [joinBytes, secsBytes, List.flatMap_append, List.append_assoc]
  rw [h, List.length_append]
  omega
theorem join_mem (l : List Sec) (hi : ∀ s ∈ l, 0 ≤ s.id ∧ s.id ≤ 12) (hb : ∀ s ∈ l, ∀ x ∈ s.b, x < 256) : ∀ x ∈ joinBytes l, x < 256 := by
  intro x hx
  unfold joinBytes at hx
  rcases List.mem_append.1 hx with h | h
  · have : ∀ y ∈ headB, y < 256 := by decide
    exact this x h
  · obtain ⟨s, hs, h⟩ := List.mem_flatMap.1 h
    unfold secBytes at h
    rcases List.mem_cons.1 h with rfl | h
    · have := hi s hs; omega
    · rcases List.mem_append.1 h with h | h
      · exact putUf_byte _ _ x h
      · exact hb s hs x h
theorem quiet_still {P : Program} {f : FuncId} {args : Array Value} {w : World} {v : Value} (h : Calls P f args w (Still w v)) : Calls P f args w fun e w' => e = .returned v ∧ ∃ m, w' = w.drewN m := h.mono fun _ _ ⟨a, b⟩ => ⟨a, 0, b.symm⟩
theorem Sli.mem {w : World} {B : Nat} {A : Option Addr} {c : Nat} {l : List Sec} (h : Sli w B A c l) : ∀ s ∈ l, ∀ x ∈ s.b, x < 256 := by
  intro s hs
  obtain ⟨j, hj, rfl⟩ := List.getElem_of_mem hs
  obtain ⟨b, off, _, _, hc⟩ := h.secs (by omega)
  obtain ⟨_, _, _, _, h1, _⟩ := hc j hj
  exact h1.1
set_option maxHeartbeats 1000000 in
set_option maxRecDepth 100000 in
theorem rjoin_any (A : Option Addr) (l : List Sec) (c : Nat) (w : World) (hs : Sli w w.heap.size A c l) (hl : (l.length : Int) ≤ 1000) (hb : (joinBytes l).length ≤ 1000000000) (hz : ∀ s ∈ l, s.b.length ≤ 1000000) : Calls Try.prog 14 #[.slice A l.length c] w fun e w' => JoinIs w (joinRes l) (joinRes l).1.length e w' := by
  have HS := Lib.hid hs
  have HB := Lib.hid hb
  have HL := Lib.hid hl
  have HZ := Lib.hid hz
  have HR2 : Hid (order l = false → joinRes l = ([], 2)) := Lib.hid fun h => by unfold joinRes; rw [if_pos h]
  have HR4 : Hid (order l = true → 65536 < (joinBytes l).length → joinRes l = ([], 4)) := Lib.hid fun h h2 => by unfold joinRes; rw [if_neg (by rw [h]; simp), if_pos h2]
  have HR0 : Hid (order l = true → ¬ 65536 < (joinBytes l).length → joinRes l = (joinBytes l, 0)) := Lib.hid fun h h2 => by unfold joinRes; rw [if_neg (by rw [h]; simp), if_neg h2]
  generalize joinRes l = R at *
  clear hs hb hz
  go_enter Try.func14, Try.ntmps14
  go_wp2_with fail
  go_loopw [4] (fun x wr => ∃ (j q : Nat), j ≤ l.length ∧ x = .int .i64 (j : Int) ∧ wr = w.drewN q ∧ Hid (orderF (l.take j) (l.drop j) = order l ∧ ∀ s ∈ l.take j, 0 ≤ s.id ∧ s.id ≤ 12)) (fun i _ => l.length - (intOf i).toNat)
  case atStart => exact ⟨0, 0, Nat.zero_le _, by go_num, rfl, Lib.hid ⟨rfl, by simp⟩⟩
  case round =>
    obtain ⟨j, q, hj, rfl, rfl, HO⟩ := hrel
    by_cases hjl : j < l.length
    · have hji : (j : Int) < (l.length : Int) := by omega
      obtain ⟨b, off, rfl, hb, hc⟩ := HS.out.secs (by omega)
      obtain ⟨SA, sc, q0, _, _, _, _⟩ := hc j hjl
      have d0 : (w.drewN q).cell? ⟨b, off + j * 2, none⟩ = some (.int .i64 l[j].id) := q0
      have HW : Hid (∀ m, ∃ k, (w.drewN q).drewN m = w.drewN k) := Lib.hid fun m => ⟨_, World.drewN_drewN _ _ _⟩
      have hsh := secs_hi tyR (some ⟨b, off, none⟩) l.length c j HS.out.room (by omega)
      have hm := fun m => quiet_still (rmay_any (some ⟨b, off, none⟩) (l.take j) c w.heap.size l[j].id ((w.drewN q).drewN m) (HS.out.secs.take j) (by simp; omega) HO.out.2)
      rw [show (l.take j).length = j from by simp; omega] at hm
      have hOA := order_at l j hjl
      rw [HO.out.1] at hOA
      by_cases hmy : may (l.take j) l[j].id = true
      · rw [hmy] at hm hOA
        have HN : Hid (orderF (l.take (j + 1)) (l.drop (j + 1)) = order l ∧ ∀ s ∈ l.take (j + 1), 0 ≤ s.id ∧ s.id ≤ 12) := Lib.hid ⟨by rw [hOA]; simp, fun s hs => by
          rw [List.take_succ_eq_append_getElem hjl] at hs
          rcases List.mem_append.1 hs with h | h
          · exact HO.out.2 s h
          · have : s = l[j] := by simpa using h
            rw [this]
            exact may_range hmy⟩
        have HM := Lib.hid hm
        clear hc q0 hm hmy hOA HR2 HR4 HR0 HO
        generalize l[j].id = id at *
        generalize w.drewN q = W at *
        go_wp2_with fail
        go_quiet ((go_at_call 18; exact Calls.quiet_of (HM.out _)))
        go_wp2
        go_roundw
        case rel =>
          obtain ⟨k, hk⟩ := HW.out nq
          exact ⟨j + 1, k, by omega, by go_num, hk, HN⟩
        case measure => simp [intOf]; omega
      · have hmy2 : may (l.take j) l[j].id = false := by simpa using hmy
        rw [hmy2] at hm hOA
        have HE := Lib.hid (HR2.out (by rw [hOA]; simp))
        have HM := Lib.hid hm
        clear hc q0 hm hmy hmy2 hOA HR2 HR4 HR0 HO
        generalize l[j].id = id at *
        generalize w.drewN q = W at *
        go_wp2_with fail
        go_quiet ((go_at_call 18; exact Calls.quiet_of (HM.out _)))
        go_wp2
        go_ret2
        rw [HE.out]
        obtain ⟨k, hk⟩ := HW.out nq
        rw [hk]
        exact joinIs_nil _ _ _ (below_drewN (Below.refl _ _) _)
    · obtain rfl : j = l.length := by omega
      have hji : ¬ (l.length : Int) < (l.length : Int) := by omega
      have hord : order l = true := by have := HO.out.1; rw [List.take_length, List.drop_length] at this; rw [← this]; rfl
      have hids := HO.out.2
      rw [List.take_length] at hids
      have HI := Lib.hid hids
      have HM := Lib.hid (join_mem l hids HS.out.mem)
      have hK4 := HR4.out hord
      have hK0 := HR0.out hord
      have HK := Lib.hid (And.intro hK4 hK0)
      have hB0 : Below w.heap.size w (w.drewN q) := below_drewN (Below.refl _ _) _
      have HO0 := Lib.hid (And.intro (head_h (w.drewN q) 5) (hB0.alloc hB0.size (.cells #[.int .u8 0, .int .u8 97, .int .u8 115, .int .u8 109, .int .u8 1, .int .u8 0, .int .u8 0, .int .u8 0] 5 (8, 9))))
      clear hK4 hK0 HR2 HR4 HR0 HO hids hord hB0
      generalize hW0 : w.drewN q = W0 at *
      have HWS : Hid (W0.heap.size = w.heap.size) := Lib.hid (by rw [← hW0]; rfl)
      clear hW0
      have kc := fun (w : World) (C : Array Value) (n c : Nat) => Lib.run_convert_bytes_const (P := Try.prog) w 22 5 C n c Try.underlying22 Try.underlying5
      go_wp2_with fail
      clear kc
      go_loopw [5, 6] (fun x5 x6 wr => ∃ (j : Nat) (v : Value), j ≤ l.length ∧ x5 = v ∧ x6 = .int .i64 (j : Int) ∧ Hid (OwnH wr w.heap.size v (joinBytes (l.take j)) ∧ Below w.heap.size w wr)) (fun _ i _ => l.length - (intOf i).toNat)
      case atStart => exact ⟨0, _, Nat.zero_le _, rfl, by go_num, Lib.hid ⟨by have := HO0.out.1; rw [HWS.out] at this; simpa [joinBytes, secsBytes, HWS.out] using this, HO0.out.2⟩⟩
      case round =>
        obtain ⟨j, v, hj, rfl, rfl, HJ⟩ := hrel
        clear HO0 HWS
        by_cases hjl : j < l.length
        · have hji : (j : Int) < (l.length : Int) := by omega
          obtain ⟨b, off, rfl, hb, hc⟩ := HS.out.secs (by omega)
          obtain ⟨SA, sc, q0, q1, q2, q3, q4⟩ := hc j hjl
          have hid := HI.out _ (List.getElem_mem hjl)
          have hzb := HZ.out _ (List.getElem_mem hjl)
          have hJA := join_at l j hjl
          have hLE := join_le l (j + 1)
          have hmem : ∀ x ∈ joinBytes (l.take (j + 1)), x < 256 := join_mem _ (fun s hs => HI.out s (List.mem_of_mem_take hs)) (fun s hs => HS.out.mem s (List.mem_of_mem_take hs))
          have hmem0 : ∀ x ∈ joinBytes (l.take j), x < 256 := join_mem _ (fun s hs => HI.out s (List.mem_of_mem_take hs)) (fun s hs => HS.out.mem s (List.mem_of_mem_take hs))
          have hbb := HB.out
          obtain ⟨k, hk⟩ : ∃ k : Nat, l[j].id = (k : Int) := ⟨l[j].id.toNat, by omega⟩
          have hk12 : k ≤ 12 := by omega
          rw [hk] at q0
          rw [hk, Int.toNat_natCast] at hJA
          have hbytes : Bytes w w.heap.size SA l[j].b := q2
          generalize l[j].b = sb at *
          generalize hn : sb.length = n at *
          have HX : Hid (∀ W, Below w.heap.size w W → W.cell? ⟨b, off + j * 2, none⟩ = some (.int .i64 (k : Int)) ∧ W.cell? ⟨b, off + j * 2 + 1, none⟩ = some (.slice SA n sc) ∧ Bytes W w.heap.size SA sb) := Lib.hid fun W hW => ⟨(hW.cell (p := ⟨b, off + j * 2, none⟩) hb).trans q0, (hW.cell (p := ⟨b, off + j * 2 + 1, none⟩) hb).trans q1, hbytes.below hW⟩
          obtain ⟨x0, x1, _⟩ := HX.out wr HJ.out.2
          have hwk : IntKind.u8.wrap (k : Int) = (k : Int) := IntWalk.u8_in _ (by omega)
          have hwn : IntKind.u64.wrap (n : Int) = (n : Int) := IntWalk.u64_in _ (by omega)
          obtain ⟨K0, hK0⟩ : ∃ K0, joinBytes (l.take j) = K0 := ⟨_, rfl⟩
          obtain ⟨K1, hK1⟩ : ∃ K1, joinBytes (l.take (j + 1)) = K1 := ⟨_, rfl⟩
          rw [hK0] at hmem0 hJA HJ
          rw [hK1] at hmem hJA hLE
          have hlens : K1.length = K0.length + 1 + (putU n).length + n := by rw [hJA]; simp; omega
          have hpu : (putU n).length ≤ 10 := (putUf_len 9 n).2
          have HP := Lib.hid (fun W (_ : True) => gives_b (rputU_any n W (by omega)) (putUf_byte _ _) rfl)
          have HA := Lib.hid (And.intro hbb (And.intro hLE hlens))
          have HMM := Lib.hid (And.intro hmem0 hmem)
          have HN := Lib.hid (And.intro hn (And.intro q4 (And.intro hk12 hpu)))
          generalize hpp : putU n = pu at *
          generalize hpl : pu.length = pl at *
          have HJA := Lib.hid hJA
          have HPP := Lib.hid hpl
          have HPB : Hid (∀ x ∈ pu, x < 256) := Lib.hid (by rw [← hpp]; exact putUf_byte _ _)
          have HKK := Lib.hid hK1
          clear hc q0 q1 q2 q3 q4 hid hJA hLE hmem hmem0 hbb hk hk12 hbytes hK0 hlens hpu hpp hpl hzb HK HM HI hn hK1
          have hbase := HJ.out.2.size
          have HJ0 := HJ
          have hA1 : Below wr.heap.size wr (wr.alloc (.cells #[.int .u8 (k : Int)] 5)) := (Below.refl _ _).alloc (Nat.le_refl _) _
          have HOA := Lib.hid (And.intro (ownH_keep HJ.out.1 hA1) (And.intro (bytes_one wr k (by have := HN.out.2.2.1; omega) 5) (And.intro (Nat.le_trans hbase hA1.size) (HJ.out.2.trans (hA1.mono hbase)))))
          have hL1 : (K0 ++ [k]).length = K0.length + 1 := by simp
          have HL1 := Lib.hid hL1
          have hm1 : K0.length + 1 ≤ 140737488355328 := by have := HA.out; omega
          clear hA1 hL1 HJ hbase
          obtain ⟨m2, hm2⟩ : ∃ m2, K0.length + 1 + pl = m2 := ⟨_, rfl⟩
          obtain ⟨m3, hm3⟩ : ∃ m3, m2 + n = m3 := ⟨_, rfl⟩
          have HM2 : Hid ((K0 ++ [k] ++ pu).length = m2 ∧ m2 ≤ 140737488355328) := Lib.hid ⟨by rw [List.length_append, HL1.out, HPP.out, hm2], by have := HA.out; omega⟩
          have HM3 : Hid ((K0 ++ [k] ++ pu ++ sb).length = m3 ∧ m3 ≤ 140737488355328) := Lib.hid ⟨by rw [List.length_append, HM2.out.1, HN.out.1, hm3], by have := HA.out; omega⟩
          have HY1 : Hid (∀ x ∈ K0 ++ [k], x < 256) := Lib.hid fun x hx => HMM.out.2 x (by rw [HJA.out]; simp at hx ⊢; rcases hx with h | h <;> simp [h])
          have HY2 : Hid (∀ x ∈ K0 ++ [k] ++ pu, x < 256) := Lib.hid fun x hx => HMM.out.2 x (by rw [HJA.out]; simp at hx ⊢; rcases hx with h | h | h <;> simp [h])
          clear hm2 hm3
          go_wp2_with (at_builtin; refine app_h rfl (.tmp 31) (.tmp 38) rfl w.heap.size _ K0 rfl HOA.out.1 HMM.out.1 (some ⟨wr.heap.size, 0, none⟩) [k] 1 1 _ (K0.length + 1) rfl rfl HOA.out.2.1 (by omega) (by simp) HL1.out hm1 HOA.out.2.2.1 ?_; intro A1 c1 w1 hown1 hby1 hr1 hn1 hb1; have hB1 := HOA.out.2.2.2.trans hb1; obtain ⟨y0, y1, _⟩ := HX.out w1 hB1; have HB1 := Lib.hid hB1; have HO1 := Lib.hid hown1; clear hB1 hown1 hby1 hr1 hn1 hb1 x0 x1)
          refine (HP.out _ trivial).mono ?_
          rintro en w2 ⟨A2, c2, rfl, hown2, hby2, hn2, hr2, hb2⟩
          have HB2 := Lib.hid (HB1.out.trans (hb2.mono HB1.out.size))
          have HO2 := Lib.hid (HO1.out.keep hb2 HO1.out.lt)
          have hbase2 := HB2.out.size
          have HZ2 := Lib.hid (And.intro hby2 hn2)
          clear hown2 hby2 hn2 hr2 hb2 y0 y1 HP HB1 HO1
          go_wp2_with (at_builtin; first | (refine app_slice rfl (.tmp 40) (.tmp 48) rfl w.heap.size _ (K0 ++ [k]) rfl HO2.out HY1.out A2 pu pl c2 w2.heap.size m2 HPP.out rfl HZ2.out.1 HZ2.out.2 HM2.out.1 HM2.out.2 hbase2 ?_; intro A3 c3 w3 hown3 hby3 hr3 hn3 hb3; have hB3 := HB2.out.trans hb3; obtain ⟨z0, z1, z2⟩ := HX.out w3 hB3; have HZ3 := Lib.hid z2; have HB3 := Lib.hid hB3; have HO3 := Lib.hid hown3; have hbase3 := hB3.size; clear z2 hB3 hown3 hby3 hr3 hn3 hb3) | (refine app_slice rfl (.tmp 50) (.tmp 55) rfl w.heap.size _ (K0 ++ [k] ++ pu) rfl HO3.out HY2.out SA sb n sc w.heap.size m3 HN.out.1 rfl HZ3.out HN.out.2.1 HM3.out.1 HM3.out.2 hbase3 ?_; intro A4 c4 w4 hown4 hby4 hr4 hn4 hb4))
          have HF : Hid (OwnH w4 w.heap.size (.slice A4 m3 c4) (joinBytes (l.take (j + 1))) ∧ Below w.heap.size w w4) := Lib.hid ⟨.inl (by rw [HKK.out, HJA.out]; have := hown4; simp only [List.append_assoc, List.cons_append, List.nil_append] at this; exact this), HB3.out.trans hb4⟩
          clear hown4 hby4 hr4 hn4 hb4 HB3 HO3 hbase3 z0 z1
          go_roundw
          case rel => exact ⟨j + 1, _, by omega, rfl, by go_num, HF⟩
          case measure => simp [intOf]; omega
        · obtain rfl : j = l.length := by omega
          have hji : ¬ (l.length : Int) < (l.length : Int) := by omega
          have hJ := HJ.out
          rw [List.take_length] at hJ
          obtain ⟨A1, c1, rfl, hslc⟩ := hJ.1.slc HM.out
          by_cases hbig : 65536 < (joinBytes l).length
          · have hbi : 65536 < ((joinBytes l).length : Int) := by omega
            have HE := Lib.hid (HK.out.1 hbig)
            have hB := Lib.hid hJ.2
            clear hslc hJ HJ HK
            generalize (joinBytes l).length = m at *
            go_wp2
            go_ret2
            rw [HE.out]
            exact joinIs_nil _ _ _ hB.out
          · have hbi : ¬ 65536 < ((joinBytes l).length : Int) := by omega
            have HE := Lib.hid (HK.out.2 hbig)
            have HF : Hid (JoinIs w (joinBytes l, 0) (joinBytes l).length (.returned (.tuple #[.slice A1 (joinBytes l).length c1, .int .i64 0])) wr) := Lib.hid ⟨A1, c1, rfl, hslc, rfl, hJ.2⟩
            clear hslc hJ HJ HK
            go_wp2
            go_ret2
            rw [HE.out]
            exact HF.out
end Go.Proofs.Ytelcoeeijkainaa.Sec
