/-
  InsBytes: trammelref06.Bytes: the bytes of an instruction whose numbers fit. Conditions: its code is done; its numbers fit, as 'fits' says; at most 100 labels.
-/
import Derived.Test.YtdipgokbfjbgfaaInsPats
import Derived.Test.YtdipgokbfjbgfaaInsOnes
import Derived.Test.YtdipgokbfjbgfaaInsTakenLaw
import Derived.Test.YtdipgokbfjbgfaaTypAll
import Derived.Deep.DeepCutAuto
import Derived.Deep.CutBlock
namespace Go.Proofs.Ytdipgokbfjbgfaa.Ins
open Go.RowKit Leb Typ

/-- The numbers that Bytes is asked of. -/
structure FitsB (x : Ins) (qs : List Part) : Prop where
  pat : pat x.op = some (some qs)
  a : Part.t ∈ qs ∨ fitsU x.a
  a64 : I64 x.a
  b : fitsU x.b
  k : I64 x.k
  l : ∀ n ∈ x.l, fitsU n
  len : x.l.length ≤ 100
/-- The bytes of one character's part. -/
def chBytes (x : Ins) (c : UInt8) : List Nat :=
  match partOf c with
  | some r => partBytes x r
  | none => []
theorem chBytes_map (x : Ins) (qs : List Part) : (qs.map chr).flatMap (chBytes x) = qs.flatMap (partBytes x) := by
  induction qs with
  | nil => rfl
  | cons q qs ih => simp only [List.map_cons, List.flatMap_cons, ih, chBytes, partOf_chr]
theorem chBytes_parts (x : Ins) (qs : List Part) : (partChars qs).flatMap (chBytes x) = qs.flatMap (partBytes x) := by
  unfold partChars
  split
  · rename_i h; subst h; rfl
  · exact chBytes_map x qs
theorem B5.grow {w W W' : World} {g : Nat} {op a b k : Int} {A : Option Addr} {n c : Nat} (h : B5 w W g op a b k A n c) (hg : w.heap.size ≤ g) (h' : Below (g + 1) W W') : B5 w W' g op a b k A n c := by
  have C : ∀ p : Addr, p.block = g → W'.cell? p = W.cell? p := fun p hp => h'.cell (by omega)
  exact ⟨h.below.trans (h'.mono (by omega)), Nat.lt_of_lt_of_le h.size h'.size, (C _ rfl).trans h.c0, (C _ rfl).trans h.c1, (C _ rfl).trans h.c2, (C _ rfl).trans h.c3, (C _ rfl).trans h.c4⟩
theorem bytes_lt (o : Nat) (x : Ins) (cs : List UInt8) (ho : o ≤ 270) : ∀ y ∈ headBytes (o : Int) ++ cs.flatMap (chBytes x), y < 256 := by
  intro y hy
  rcases List.mem_append.1 hy with hy | hy
  · unfold headBytes at hy
    split at hy
    · rcases List.mem_cons.1 hy with rfl | hy
      · omega
      · exact putU_lt _ y hy
    · have : y = (o : Int).toNat := by simpa using hy
      omega
  · obtain ⟨c, _, hc⟩ := List.mem_flatMap.1 hy
    unfold chBytes at hc
    split at hc
    · exact partBytes_byte x _ y hc
    · simp at hc
theorem part_len100 (x : Ins) (r : Part) (h : x.l.length ≤ 100) : (partBytes x r).length ≤ 1010 := by
  cases r with
  | t => have := putS_length x.a; simp only [partBytes]; omega
  | a => have := (putU_len x.a.toNat).2; simp only [partBytes]; omega
  | b => have := (putU_len x.b.toNat).2; simp only [partBytes]; omega
  | l =>
    have h1 := (putU_len x.l.length).2
    have h2 := labelBytes_len x.l
    simp only [partBytes, List.length_append]
    omega
  | k => have := putS_length x.k; simp only [partBytes]; omega
  | kk => have := putS_length x.k; simp only [partBytes]; omega
  | z => simp [partBytes]
theorem ch_len100 (x : Ins) (cs : List UInt8) (h : x.l.length ≤ 100) : (cs.flatMap (chBytes x)).length ≤ 1010 * cs.length := by
  induction cs with
  | nil => simp
  | cons c cs ih =>
    have h1 : (chBytes x c).length ≤ 1010 := by
      unfold chBytes
      split
      · exact part_len100 x _ h
      · simp
    rw [List.flatMap_cons, List.length_append, List.length_cons]
    omega
theorem head_len (o : Nat) : (headBytes (o : Int)).length ≤ 11 := by
  unfold headBytes
  split
  · have := (putU_len ((o : Int) - 256).toNat).2; simp; omega
  · simp
theorem ib_len (o : Nat) (x : Ins) (cs : List UInt8) (h : x.l.length ≤ 100) (hc : cs.length ≤ 2) : (headBytes (o : Int) ++ cs.flatMap (chBytes x)).length ≤ 5000 := by
  rw [List.length_append]
  have h1 := head_len o
  have h2 := ch_len100 x cs h
  have h3 : 1010 * cs.length ≤ 2020 := by omega
  omega
theorem no_t (op : Int) (qs : List Part) (h : pat op = some (some qs)) (i : Nat) (hi : i < (partChars qs).length) (hc : (partChars qs)[i] = 97) : Part.t ∉ qs := by
  have key : qs = [.t] ∨ Part.t ∉ qs := by
    unfold pat at h
    cases hn : named op with
    | some p =>
      rw [hn] at h
      simp only [Option.some.injEq] at h
      subst h
      unfold named at hn
      repeat' split at hn
      all_goals first
        | (simp only [Option.some.injEq] at hn; subst hn; simp)
        | (exfalso; simp at hn)
    | none =>
      rw [hn] at h
      simp only at h
      by_cases h1 : wideOp op = true
      · rw [if_pos h1] at h; simp at h
      · rw [if_neg h1] at h
        by_cases h2 : accOp op = true
        · rw [if_pos h2] at h
          simp only [Option.some.injEq] at h
          subst h
          simp
        · rw [if_neg h2] at h
          by_cases h3 : numOp op = true
          · rw [if_pos h3] at h
            simp only [Option.some.injEq] at h
            subst h
            simp
          · rw [if_neg h3] at h; simp at h
  rcases key with rfl | key
  · exfalso
    have h0 : i = 0 := by simp [partChars] at hi; omega
    subst h0
    have e : (partChars [Part.t])[0]'(by decide) = 116 := rfl
    rw [e] at hc
    exact absurd hc (by decide)
  · exact key
theorem fm_next (x : Ins) (cs : List UInt8) (i : Nat) (hi : i < cs.length) (pre R : List Nat) (h : pre ++ (cs.drop i).flatMap (chBytes x) = R) : (pre ++ chBytes x cs[i]) ++ (cs.drop (i + 1)).flatMap (chBytes x) = R := by
  rw [List.drop_eq_getElem_cons hi, List.flatMap_cons] at h
  rw [List.append_assoc]
  exact h
theorem labelBytes_next (ls : List Int) (j : Nat) (h : j < ls.length) : labelBytes (ls.take (j + 1)) = labelBytes (ls.take j) ++ putU ls[j].toNat := by
  unfold labelBytes
  rw [List.take_succ_eq_append_getElem h, List.flatMap_append]
  simp
theorem own_len {w : World} {base : Nat} {A : Option Addr} {n c : Nat} {l : List Nat} (h : Own w base (.slice A n c) l) : l.length = n := by
  rcases h.2 with ⟨e, h0⟩ | ⟨g, cap, cur, e, _⟩
  · injection e with _ e _
    omega
  · injection e with _ e _
    omega
theorem putU_gives (n k : Nat) (w : World) (hn : n < 18446744073709551616) (hk : (putU n).length = k) : Calls Try.prog 35 #[.int .u64 (n : Int)] w (GivesB w (putU n) k) := gives_b (rputU_any n w hn) (putU_lt n) hk
theorem putS_gives (n : Int) (k : Nat) (w : World) (hn : I64 n) (hk : (putS n).length = k) : Calls Try.prog 37 #[.int .i64 n] w (GivesB w (putS n) k) := gives_b (rputS_any n w hn) (putS_lt n) hk
theorem blk_gives (n : Int) (k : Nat) (w : World) (hn : I64 n) (hk : (putS n).length = k) : Calls Try.prog 36 #[.int .i64 n] w (GivesB w (putS n) k) := gives_b (blockBytes_any n w hn) (putS_lt n) hk
set_option maxHeartbeats 8000000 in
set_option maxRecDepth 100000 in
theorem rbytes_run (A1 : Option Addr) (c1 nl o : Nat) (a b k : Int) (ls : List Int) (qs : List Part) (w : World) (hf : FitsB ⟨(o : Int), a, b, k, ls⟩ qs) (hnl : ls.length = nl) (hi : Ints w w.heap.size A1 ls) (ho2 : o ≤ 270) :
    Calls Try.prog 16 #[.agg #[.int .i64 (o : Int), .int .i64 a, .int .i64 b, .int .i64 k, .slice A1 nl c1]] w (Gives w (insBytes ⟨(o : Int), a, b, k, ls⟩)) := by
  have HX := Lib.hid (b5_of (Below.refl w.heap.size w) (o : Int) a b k A1 nl c1 25)
  have HF := Lib.hid hf
  have HNL := Lib.hid hnl
  have HI := Lib.hid hi
  have HIB : Hid (insBytes ⟨(o : Int), a, b, k, ls⟩ = headBytes (o : Int) ++ (partChars qs).flatMap (chBytes ⟨(o : Int), a, b, k, ls⟩)) := Lib.hid (by rw [chBytes_parts]; unfold insBytes; rw [hf.pat]; rfl)
  have hst : patStr (o : Int) = ⟨(partChars qs).toArray⟩ := by unfold patStr chars; have := hf.pat; simp only at this; rw [this]
  have HP : Hid (∀ W, Calls Try.prog 27 #[.int .i64 (o : Int)] W (PatIs W ⟨(partChars qs).toArray⟩)) := Lib.hid fun W => by rw [← hst]; exact pattern_any (o : Int) W
  have HCH := Lib.hid (partChars_in qs)
  have HLN := Lib.hid (partChars_len qs (pat_len _ _ hf.pat))
  have HTA : Hid (∀ (i : Nat) (h : i < (partChars qs).length), (partChars qs)[i] = 97 → fitsU a) := Lib.hid fun i h hc => hf.a.resolve_left (no_t _ qs hf.pat i h hc)
  have HLT : Hid (∀ y ∈ insBytes ⟨(o : Int), a, b, k, ls⟩, y < 256) := Lib.hid (by rw [HIB.out]; exact bytes_lt o _ _ ho2)
  clear hf hnl hi hst
  generalize partChars qs = cs at *
  go_enter Try.func16, Try.ntmps16
  go_upto_if 13 with fail
  go_cut [3] (fun s3 wx => ∃ (A3 : Option Addr) (n3 c3 : Nat), s3 = .slice A3 n3 c3 ∧ Hid (Own wx (w.heap.size + 1) (.slice A3 n3 c3) (headBytes (o : Int))) ∧ Hid (B5 w wx w.heap.size (o : Int) a b k A1 nl c1))
  case first =>
    clear HP HIB HCH HLN HI HNL HF HLT
    by_cases h256 : 256 ≤ o
    · have h256i : (256 : Int) ≤ (o : Int) := by omega
      obtain ⟨m, hm⟩ : ∃ m : Nat, o = m + 256 := ⟨o - 256, by omega⟩
      obtain ⟨km, hkm⟩ : ∃ km, (putU m).length = km := ⟨_, rfl⟩
      have HKM := Lib.hid hkm
      have hm14 : (m : Int) ≤ 14 := by omega
      have HHB : Hid (headBytes (o : Int) = [252] ++ putU m) := Lib.hid (by unfold headBytes; rw [if_pos (by omega), show (((o : Int) - 256).toNat) = m from by omega]; rfl)
      have HU := Lib.hid (fun W => putU_gives m km W (by omega) hkm)
      have hk10 : km ≤ 10 := by rw [← hkm]; exact (putU_len m).2
      have hmm : (o : Int) - 256 = (m : Int) := by omega
      have HX1 := Lib.hid (HX.out.keep ((Below.refl _ _).alloc (Nat.le_refl _) (.cells #[.int .u8 ((o : Int) % 256)] 5)))
      clear hm
      clear hkm HX
      have hX1 := HX1.out
      go_wp2_with fail
      refine (HU.out _).mono ?_
      rintro e w4 ⟨A4, c4, rfl, hown4, hB4, hn4, hc4, hb4⟩
      have own0 := own_lit ((w.alloc (.cells #[.int .i64 (o : Int), .int .i64 a, .int .i64 b, .int .i64 k, .slice A1 nl c1] 25)).alloc (.cells #[.int .u8 ((o : Int) % 256)] 5)) 252
      have HX4 := Lib.hid ((hX1.keep ((Below.refl _ _).alloc (Nat.le_refl _) (.cells #[.int .u8 252] 5))).keep hb4)
      have own4 := own0.keep hb4 own0.lt
      simp only [World.size_alloc] at own4
      have hsz4 : w.heap.size + 1 + 1 ≤ w4.heap.size := by have := hb4.size; simp at this; omega
      clear own0 hX1 HX1 hb4 hown4 HU
      go_wp2_with (at_builtin; refine app_slice rfl (.tmp 14) (.tmp 19) rfl (w.heap.size + 1 + 1) _ [252] rfl own4 (by simp) A4 (putU m) km c4 _ (km + 1) HKM.out rfl hB4 hn4 (by simp [HKM.out]) (by omega) hsz4 ?_; intro A5 c5 w5 hown5 hB5 hc5 hn5 hb5)
      have HX5 := Lib.hid (HX4.out.grow (Nat.le_refl _) (hb5.mono (by omega)))
      go_meet
      exact ⟨A5, km + 1, c5, rfl, Lib.hid (by rw [HHB.out]; exact own_from hown5 (by omega)), HX5⟩
    · have h256i : ¬ (256 : Int) ≤ (o : Int) := by omega
      have hmod : (o : Int) % 256 = (o : Int) := by omega
      have own0 := own_lit (w.alloc (.cells #[.int .i64 (o : Int), .int .i64 a, .int .i64 b, .int .i64 k, .slice A1 nl c1] 25)) o
      have HX1 := Lib.hid (HX.out.keep ((Below.refl _ _).alloc (Nat.le_refl _) (.cells #[.int .u8 (o : Int)] 5)))
      have HHB : Hid (headBytes (o : Int) = [o]) := Lib.hid (by unfold headBytes; rw [if_neg (by omega)]; rfl)
      simp only [World.size_alloc] at own0
      rw [hmod]
      clear HX
      go_wp2
      go_meet
      exact ⟨_, _, _, rfl, Lib.hid (by rw [HHB.out]; exact own0), HX1⟩
  case rest =>
    obtain ⟨A3, n3, c3, rfl, HO3, HX3⟩ := hcut
    clear HX
    have HBND : Hid ((insBytes ⟨(o : Int), a, b, k, ls⟩).length ≤ 5000) := Lib.hid (by rw [HIB.out]; exact ib_len o ⟨(o : Int), a, b, k, ls⟩ cs HF.out.len HLN.out.2)
    have q0 := HX3.out.c0
    go_wp2_with fail
    refine (HP.out _).mono ?_
    rintro e w4 ⟨rfl, hb4⟩
    have HX4 := Lib.hid (HX3.out.keep hb4)
    have HO4 := Lib.hid (HO3.out.keep hb4 HO3.out.lt)
    clear HX3 HO3 hb4 q0 HP
    go_wp2
    go_loopw [3, 5] (fun s3 s5 wr => ∃ (i n3 c3 : Nat) (A3 : Option Addr) (pre : List Nat), s3 = .slice A3 n3 c3 ∧ s5 = .int .i64 (i : Int) ∧ i ≤ cs.length ∧ Hid (pre.length = n3) ∧ Hid (Own wr (w.heap.size + 1) (.slice A3 n3 c3) pre) ∧ Hid (B5 w wr w.heap.size (o : Int) a b k A1 nl c1) ∧ Hid (pre ++ (cs.drop i).flatMap (chBytes ⟨(o : Int), a, b, k, ls⟩) = insBytes ⟨(o : Int), a, b, k, ls⟩)) (fun _ s5 _ => cs.length - (intOf s5).toNat)
    case atStart => exact ⟨0, n3, c3, A3, headBytes (o : Int), rfl, rfl, Nat.zero_le _, Lib.hid (own_len HO4.out), HO4, HX4, Lib.hid HIB.out.symm⟩
    case round =>
      obtain ⟨i, n4, c4, A4, pre, rfl, rfl, hil, HPL, HO5, HX5, HPR⟩ := hrel
      clear HX4 HO4
      by_cases hlt : i < cs.length
      · have hlti : (i : Int) < (cs.length : Int) := by omega
        have hi2 : (i : Int) < 2 := by have := HLN.out.2; omega
        have HNX := Lib.hid (fm_next ⟨(o : Int), a, b, k, ls⟩ cs i hlt pre _ HPR.out)
        have hix := fun W => str_index Try.underlying9 cs i hlt W
        have hch0 := HCH.out _ (List.getElem_mem hlt)
        have HPB : Hid (∀ y ∈ pre, y < 256) := Lib.hid fun y hy => HLT.out y (by rw [← HPR.out]; exact List.mem_append_left _ hy)
        have hn5 : n4 ≤ 5000 := by have h1 := HBND.out; rw [← HPR.out, List.length_append, HPL.out] at h1; omega
        have hsz5 : w.heap.size + 1 ≤ wr.heap.size := HX5.out.size
        have hcha : cs[i] = cs[i] := rfl
        have HCA : Hid (cs[i] = 97 → fitsU a) := Lib.hid (HTA.out i hlt)
        clear hcha
        generalize cs[i] = ch at *
        clear HPR
        rcases hch0 with rfl | ⟨r, rfl⟩
        · have HN2 : Hid (pre ++ (cs.drop (i + 1)).flatMap (chBytes ⟨(o : Int), a, b, k, ls⟩) = insBytes ⟨(o : Int), a, b, k, ls⟩) := Lib.hid (by have := HNX.out; rw [show chBytes ⟨(o : Int), a, b, k, ls⟩ 46 = [] from rfl, List.append_nil] at this; exact this)
          go_wp2
          go_roundw
          case rel => exact ⟨i + 1, n4, c4, A4, pre, rfl, by go_num, by omega, HPL, HO5, HX5, HN2⟩
          case measure => simp [intOf]; omega
        · cases r with
          | t =>
            obtain ⟨kb, hkb⟩ : ∃ kb, (putS a).length = kb := ⟨_, rfl⟩
            have HKB := Lib.hid hkb
            have hkb10 : kb ≤ 10 := by rw [← hkb]; exact (putS_length a)
            have HU := Lib.hid (fun W => blk_gives a kb W HF.out.a64 hkb)
            have HN2 : Hid ((pre ++ putS a) ++ (cs.drop (i + 1)).flatMap (chBytes ⟨(o : Int), a, b, k, ls⟩) = insBytes ⟨(o : Int), a, b, k, ls⟩) := HNX
            have q := HX5.out.c1
            clear hkb HNX
            go_wp2_with fail
            refine (HU.out _).mono ?_
            rintro e w6 ⟨A6, c6, rfl, hown6, hB6, hn6, hc6, hb6⟩
            have HX6 := Lib.hid (HX5.out.keep hb6)
            have own6 := HO5.out.keep hb6 HO5.out.lt
            have hsz6 : w.heap.size + 1 ≤ w6.heap.size := HX6.out.size
            clear hown6 hb6 HU HX5 HO5 q
            go_wp2_with (at_builtin; refine app_slice rfl (.tmp 35) (.tmp 38) rfl (w.heap.size + 1) _ pre rfl own6 HPB.out A6 (putS a) kb c6 _ (n4 + kb) HKB.out rfl hB6 hn6 (by rw [List.length_append, HPL.out, HKB.out]) (by omega) hsz6 ?_; intro A7 c7 w7 hown7 hB7 hc7 hn7 hb7)
            have HX7 := Lib.hid (HX6.out.grow (Nat.le_refl _) hb7)
            go_roundw
            case rel => exact ⟨i + 1, n4 + kb, c7, A7, pre ++ putS a, rfl, by go_num, by omega, Lib.hid (by rw [List.length_append, HPL.out, HKB.out]), Lib.hid hown7, HX7, HN2⟩
            case measure => simp [intOf]; omega
          | a =>
            have hfit : fitsU a := HCA.out rfl
            obtain ⟨n, hn⟩ : ∃ n : Nat, a = (n : Int) := ⟨a.toNat, by unfold fitsU at hfit; omega⟩
            have hnb : n < 4294967296 := by unfold fitsU at hfit; omega
            have hww : IntKind.u64.wrap a = (n : Int) := by rw [IntKind.wrap_u64]; omega
            have hnn : (a).toNat = n := by omega
            have HNN := Lib.hid hnn
            clear hfit hn hnn
            obtain ⟨kb, hkb⟩ : ∃ kb, (putU n).length = kb := ⟨_, rfl⟩
            have HKB := Lib.hid hkb
            have hkb10 : kb ≤ 10 := by rw [← hkb]; exact (putU_len n).2
            have HU := Lib.hid (fun W => putU_gives n kb W (by omega) hkb)
            have HN2 : Hid ((pre ++ putU n) ++ (cs.drop (i + 1)).flatMap (chBytes ⟨(o : Int), a, b, k, ls⟩) = insBytes ⟨(o : Int), a, b, k, ls⟩) := Lib.hid (by have := HNX.out; rw [show chBytes ⟨(o : Int), a, b, k, ls⟩ (chr .a) = putU (a).toNat from rfl, HNN.out] at this; exact this)
            have q := HX5.out.c1
            clear hkb HNX
            go_wp2_with fail
            refine (HU.out _).mono ?_
            rintro e w6 ⟨A6, c6, rfl, hown6, hB6, hn6, hc6, hb6⟩
            have HX6 := Lib.hid (HX5.out.keep hb6)
            have own6 := HO5.out.keep hb6 HO5.out.lt
            have hsz6 : w.heap.size + 1 ≤ w6.heap.size := HX6.out.size
            clear hown6 hb6 HU HX5 HO5 q
            go_wp2_with (at_builtin; refine app_slice rfl (.tmp 42) (.tmp 46) rfl (w.heap.size + 1) _ pre rfl own6 HPB.out A6 (putU n) kb c6 _ (n4 + kb) HKB.out rfl hB6 hn6 (by rw [List.length_append, HPL.out, HKB.out]) (by omega) hsz6 ?_; intro A7 c7 w7 hown7 hB7 hc7 hn7 hb7)
            have HX7 := Lib.hid (HX6.out.grow (Nat.le_refl _) hb7)
            go_roundw
            case rel => exact ⟨i + 1, n4 + kb, c7, A7, pre ++ putU n, rfl, by go_num, by omega, Lib.hid (by rw [List.length_append, HPL.out, HKB.out]), Lib.hid hown7, HX7, HN2⟩
            case measure => simp [intOf]; omega
          | b =>
            have hfit : fitsU b := HF.out.b
            obtain ⟨n, hn⟩ : ∃ n : Nat, b = (n : Int) := ⟨b.toNat, by unfold fitsU at hfit; omega⟩
            have hnb : n < 4294967296 := by unfold fitsU at hfit; omega
            have hww : IntKind.u64.wrap b = (n : Int) := by rw [IntKind.wrap_u64]; omega
            have hnn : (b).toNat = n := by omega
            have HNN := Lib.hid hnn
            clear hfit hn hnn
            obtain ⟨kb, hkb⟩ : ∃ kb, (putU n).length = kb := ⟨_, rfl⟩
            have HKB := Lib.hid hkb
            have hkb10 : kb ≤ 10 := by rw [← hkb]; exact (putU_len n).2
            have HU := Lib.hid (fun W => putU_gives n kb W (by omega) hkb)
            have HN2 : Hid ((pre ++ putU n) ++ (cs.drop (i + 1)).flatMap (chBytes ⟨(o : Int), a, b, k, ls⟩) = insBytes ⟨(o : Int), a, b, k, ls⟩) := Lib.hid (by have := HNX.out; rw [show chBytes ⟨(o : Int), a, b, k, ls⟩ (chr .b) = putU (b).toNat from rfl, HNN.out] at this; exact this)
            have q := HX5.out.c2
            clear hkb HNX
            go_wp2_with fail
            refine (HU.out _).mono ?_
            rintro e w6 ⟨A6, c6, rfl, hown6, hB6, hn6, hc6, hb6⟩
            have HX6 := Lib.hid (HX5.out.keep hb6)
            have own6 := HO5.out.keep hb6 HO5.out.lt
            have hsz6 : w.heap.size + 1 ≤ w6.heap.size := HX6.out.size
            clear hown6 hb6 HU HX5 HO5 q
            go_wp2_with (at_builtin; refine app_slice rfl (.tmp 50) (.tmp 54) rfl (w.heap.size + 1) _ pre rfl own6 HPB.out A6 (putU n) kb c6 _ (n4 + kb) HKB.out rfl hB6 hn6 (by rw [List.length_append, HPL.out, HKB.out]) (by omega) hsz6 ?_; intro A7 c7 w7 hown7 hB7 hc7 hn7 hb7)
            have HX7 := Lib.hid (HX6.out.grow (Nat.le_refl _) hb7)
            go_roundw
            case rel => exact ⟨i + 1, n4 + kb, c7, A7, pre ++ putU n, rfl, by go_num, by omega, Lib.hid (by rw [List.length_append, HPL.out, HKB.out]), Lib.hid hown7, HX7, HN2⟩
            case measure => simp [intOf]; omega
          | l =>
            obtain ⟨kb, hkb⟩ : ∃ kb, (putU nl).length = kb := ⟨_, rfl⟩
            have HKB := Lib.hid hkb
            have hkb10 : kb ≤ 10 := by rw [← hkb]; exact (putU_len nl).2
            have hnl100 : nl ≤ 100 := by rw [← HNL.out]; exact HF.out.len
            have HU := Lib.hid (fun W => putU_gives nl kb W (by omega) hkb)
            have HN2 : Hid ((pre ++ (putU nl ++ labelBytes ls)) ++ (cs.drop (i + 1)).flatMap (chBytes ⟨(o : Int), a, b, k, ls⟩) = insBytes ⟨(o : Int), a, b, k, ls⟩) := Lib.hid (by have := HNX.out; rw [show chBytes ⟨(o : Int), a, b, k, ls⟩ (chr .l) = putU ls.length ++ labelBytes ls from rfl, HNL.out] at this; exact this)
            have hww : IntKind.u64.wrap (nl : Int) = (nl : Int) := by rw [IntKind.wrap_u64]; omega
            have q := HX5.out.c4
            clear hkb HNX
            go_wp2_with fail
            refine (HU.out _).mono ?_
            rintro e w6 ⟨A6, c6, rfl, hown6, hB6, hn6, hc6, hb6⟩
            have HX6 := Lib.hid (HX5.out.keep hb6)
            have own6 := HO5.out.keep hb6 HO5.out.lt
            have hsz6 : w.heap.size + 1 ≤ w6.heap.size := HX6.out.size
            clear hown6 hb6 HU HX5 HO5 q hww
            go_wp2_with (at_builtin; refine app_slice rfl (.tmp 58) (.tmp 63) rfl (w.heap.size + 1) _ pre rfl own6 HPB.out A6 (putU nl) kb c6 _ (n4 + kb) HKB.out rfl hB6 hn6 (by rw [List.length_append, HPL.out, HKB.out]) (by omega) hsz6 ?_; intro A7 c7 w7 hown7 hB7 hc7 hn7 hb7)
            have HX7 := Lib.hid (HX6.out.grow (Nat.le_refl _) hb7)
            clear hB7 hc7 hn7 hb7 HX6 own6 hB6 hn6 hc6
            go_loopw [3, 6] (fun s3 s6 wr => ∃ (j n5 c5 : Nat) (A5 : Option Addr), s3 = .slice A5 n5 c5 ∧ s6 = .int .i64 (j : Int) ∧ j ≤ nl ∧ n5 ≤ n4 + kb + 10 * j ∧ Hid ((pre ++ (putU nl ++ labelBytes (ls.take j))).length = n5) ∧ Hid (Own wr (w.heap.size + 1) (.slice A5 n5 c5) (pre ++ (putU nl ++ labelBytes (ls.take j)))) ∧ Hid (B5 w wr w.heap.size (o : Int) a b k A1 nl c1)) (fun _ s6 _ => nl - (intOf s6).toNat)
            case atStart => exact ⟨0, n4 + kb, c7, A7, rfl, rfl, Nat.zero_le _, by omega, Lib.hid (by simp [labelBytes, HPL.out, HKB.out]), Lib.hid (by simpa [labelBytes] using hown7), HX7⟩
            case round =>
              obtain ⟨j, n5, c5, A5, rfl, rfl, hj, hn5b, HPL5, HO6, HX8⟩ := hrel
              clear hown7 HX7
              have q := HX8.out.c4
              by_cases hjl : j < nl
              · have hjli : (j : Int) < (nl : Int) := by omega
                have hjx : j < ls.length := by rw [HNL.out]; exact hjl
                obtain ⟨b1, off1, rfl, hbl1, hcs1⟩ := (HI.out.below HX8.out.below) (by omega)
                have hcj := hcs1 j hjx
                have hfit := HF.out.l _ (List.getElem_mem hjx)
                have HLX := Lib.hid (labelBytes_next ls j hjx)
                have HPB8 : Hid (∀ y ∈ pre ++ (putU nl ++ labelBytes (ls.take j)), y < 256) := Lib.hid fun y hy => by
                  rcases List.mem_append.1 hy with hy | hy
                  · exact HPB.out y hy
                  · rcases List.mem_append.1 hy with hy | hy
                    · exact putU_lt _ y hy
                    · exact labelBytes_byte _ y hy
                clear hcs1
                generalize ls[j] = lv at *
                obtain ⟨n, hn⟩ : ∃ n : Nat, lv = (n : Int) := ⟨lv.toNat, by unfold fitsU at hfit; omega⟩
                have hnb : n < 4294967296 := by unfold fitsU at hfit; omega
                have HNT : Hid (lv.toNat = n) := Lib.hid (by omega)
                have hww : IntKind.u64.wrap lv = (n : Int) := by rw [IntKind.wrap_u64]; omega
                obtain ⟨k2, hk2⟩ : ∃ k2, (putU n).length = k2 := ⟨_, rfl⟩
                have HK2 := Lib.hid hk2
                have hk210 : k2 ≤ 10 := by rw [← hk2]; exact (putU_len n).2
                have HU2 := Lib.hid (fun W => putU_gives n k2 W (by omega) hk2)
                clear hk2 hfit hn hnb
                go_wp2_with fail
                refine (HU2.out _).mono ?_
                rintro e w8 ⟨A8, c8, rfl, hown8, hB8, hn8, hc8, hb8⟩
                have HX9 := Lib.hid (HX8.out.keep hb8)
                have own8 := HO6.out.keep hb8 HO6.out.lt
                have hsz8 : w.heap.size + 1 ≤ w8.heap.size := HX9.out.size
                clear hown8 hb8 HU2 HX8 HO6 q hcj hww
                go_wp2_with (at_builtin; refine app_slice rfl (.tmp 72) (.tmp 79) rfl (w.heap.size + 1) _ (pre ++ (putU nl ++ labelBytes (ls.take j))) rfl own8 HPB8.out A8 (putU n) k2 c8 _ (n5 + k2) HK2.out rfl hB8 hn8 (by rw [List.length_append, HPL5.out, HK2.out]) (by omega) hsz8 ?_; intro A9 c9 w9 hown9 hB9 hc9 hn9 hb9)
                have HX10 := Lib.hid (HX9.out.grow (Nat.le_refl _) hb9)
                have HEQ : Hid (pre ++ (putU nl ++ labelBytes (ls.take (j + 1))) = pre ++ (putU nl ++ labelBytes (ls.take j)) ++ putU n) := Lib.hid (by rw [HLX.out, HNT.out]; simp)
                go_roundw
                case rel => exact ⟨j + 1, n5 + k2, c9, A9, rfl, by go_num, by omega, by omega, Lib.hid (by rw [HEQ.out, List.length_append, HPL5.out, HK2.out]), Lib.hid (by rw [HEQ.out]; exact hown9), HX10⟩
                case measure => simp [intOf]; omega
              · have hjli : ¬ (j : Int) < (nl : Int) := by omega
                have hjn : j = nl := by omega
                have HTK : Hid (ls.take j = ls) := Lib.hid (List.take_of_length_le (by rw [HNL.out]; omega))
                go_wp2
                go_roundw
                case rel => exact ⟨i + 1, n5, c5, A5, pre ++ (putU nl ++ labelBytes ls), rfl, by go_num, by omega, Lib.hid (by have := HPL5.out; rw [HTK.out] at this; exact this), Lib.hid (by have := HO6.out; rw [HTK.out] at this; exact this), HX8, HN2⟩
                case measure => simp [intOf]; omega
          | k =>
            obtain ⟨kb, hkb⟩ : ∃ kb, (putS k).length = kb := ⟨_, rfl⟩
            have HKB := Lib.hid hkb
            have hkb10 : kb ≤ 10 := by rw [← hkb]; exact (putS_length k)
            have HU := Lib.hid (fun W => putS_gives k kb W HF.out.k hkb)
            have HN2 : Hid ((pre ++ putS k) ++ (cs.drop (i + 1)).flatMap (chBytes ⟨(o : Int), a, b, k, ls⟩) = insBytes ⟨(o : Int), a, b, k, ls⟩) := HNX
            have q := HX5.out.c3
            clear hkb HNX
            go_wp2_with fail
            refine (HU.out _).mono ?_
            rintro e w6 ⟨A6, c6, rfl, hown6, hB6, hn6, hc6, hb6⟩
            have HX6 := Lib.hid (HX5.out.keep hb6)
            have own6 := HO5.out.keep hb6 HO5.out.lt
            have hsz6 : w.heap.size + 1 ≤ w6.heap.size := HX6.out.size
            clear hown6 hb6 HU HX5 HO5 q
            go_wp2_with (at_builtin; refine app_slice rfl (.tmp 84) (.tmp 87) rfl (w.heap.size + 1) _ pre rfl own6 HPB.out A6 (putS k) kb c6 _ (n4 + kb) HKB.out rfl hB6 hn6 (by rw [List.length_append, HPL.out, HKB.out]) (by omega) hsz6 ?_; intro A7 c7 w7 hown7 hB7 hc7 hn7 hb7)
            have HX7 := Lib.hid (HX6.out.grow (Nat.le_refl _) hb7)
            go_roundw
            case rel => exact ⟨i + 1, n4 + kb, c7, A7, pre ++ putS k, rfl, by go_num, by omega, Lib.hid (by rw [List.length_append, HPL.out, HKB.out]), Lib.hid hown7, HX7, HN2⟩
            case measure => simp [intOf]; omega
          | kk =>
            obtain ⟨kb, hkb⟩ : ∃ kb, (putS k).length = kb := ⟨_, rfl⟩
            have HKB := Lib.hid hkb
            have hkb10 : kb ≤ 10 := by rw [← hkb]; exact (putS_length k)
            have HU := Lib.hid (fun W => putS_gives k kb W HF.out.k hkb)
            have HN2 : Hid ((pre ++ putS k) ++ (cs.drop (i + 1)).flatMap (chBytes ⟨(o : Int), a, b, k, ls⟩) = insBytes ⟨(o : Int), a, b, k, ls⟩) := HNX
            have q := HX5.out.c3
            clear hkb HNX
            go_wp2_with fail
            refine (HU.out _).mono ?_
            rintro e w6 ⟨A6, c6, rfl, hown6, hB6, hn6, hc6, hb6⟩
            have HX6 := Lib.hid (HX5.out.keep hb6)
            have own6 := HO5.out.keep hb6 HO5.out.lt
            have hsz6 : w.heap.size + 1 ≤ w6.heap.size := HX6.out.size
            clear hown6 hb6 HU HX5 HO5 q
            go_wp2_with (at_builtin; refine app_slice rfl (.tmp 84) (.tmp 87) rfl (w.heap.size + 1) _ pre rfl own6 HPB.out A6 (putS k) kb c6 _ (n4 + kb) HKB.out rfl hB6 hn6 (by rw [List.length_append, HPL.out, HKB.out]) (by omega) hsz6 ?_; intro A7 c7 w7 hown7 hB7 hc7 hn7 hb7)
            have HX7 := Lib.hid (HX6.out.grow (Nat.le_refl _) hb7)
            go_roundw
            case rel => exact ⟨i + 1, n4 + kb, c7, A7, pre ++ putS k, rfl, by go_num, by omega, Lib.hid (by rw [List.length_append, HPL.out, HKB.out]), Lib.hid hown7, HX7, HN2⟩
            case measure => simp [intOf]; omega
          | z =>
            have HN2 : Hid ((pre ++ [0]) ++ (cs.drop (i + 1)).flatMap (chBytes ⟨(o : Int), a, b, k, ls⟩) = insBytes ⟨(o : Int), a, b, k, ls⟩) := HNX
            clear HNX
            go_wp2_with (at_builtin; refine app_slice rfl (.tmp 91) (.tmp 92) rfl (w.heap.size + 1) _ pre rfl (HO5.out.alloc _) HPB.out _ [0] 1 1 _ (n4 + 1) rfl rfl (bytes_one _ 0 (by omega) _) (fun h => by cases h) (by simp [HPL.out]) (by omega) (by simp; omega) ?_; intro A7 c7 w7 hown7 hB7 hc7 hn7 hb7)
            have HX7 := Lib.hid ((HX5.out.keep ((Below.refl _ _).alloc (Nat.le_refl _) _)).grow (Nat.le_refl _) hb7)
            go_roundw
            case rel => exact ⟨i + 1, n4 + 1, c7, A7, pre ++ [0], rfl, by go_num, by omega, Lib.hid (by simp [HPL.out]), Lib.hid hown7, HX7, HN2⟩
            case measure => simp [intOf]; omega
      · have hlti : ¬ (i : Int) < (cs.length : Int) := by omega
        have HE : Hid (insBytes ⟨(o : Int), a, b, k, ls⟩ = pre) := Lib.hid (by have := HPR.out; rw [List.drop_of_length_le (by omega)] at this; simpa using this.symm)
        have hb := HX5.out.below
        clear HX5 HPR
        go_wp2
        go_ret
        rw [HE.out]
        exact ⟨_, rfl, own_from HO5.out (by omega), hb⟩
theorem rbytes_any (v : Value) (x : Ins) (qs : List Part) (w : World) (hv : InsV w v x) (hf : FitsB x qs) : Calls Try.prog 16 #[v] w (Gives w (insBytes x)) := by
  obtain ⟨A1, c1, rfl, hi, _, _⟩ := hv
  have hr := pat_range _ _ hf.pat
  obtain ⟨op, a, b, k, ls⟩ := x
  simp only at hr hi ⊢
  obtain ⟨o, rfl⟩ : ∃ o : Nat, op = (o : Int) := ⟨op.toNat, by omega⟩
  exact rbytes_run A1 c1 _ o a b k ls qs w hf rfl hi (by omega)
end Go.Proofs.Ytdipgokbfjbgfaa.Ins
