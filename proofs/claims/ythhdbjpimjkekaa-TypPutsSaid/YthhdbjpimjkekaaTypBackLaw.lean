/-
  trammellaw05.TypBack returns true, if typ's functions answer as the reference's do. Condition: that premise.
-/
import Derived.Test.YthhdbjpimjkekaaTypReadsLaw
import Derived.Test.YthhdbjpimjkekaaTypBackMath
namespace Go.Proofs.Ythhdbjpimjkekaa.Typ
open Go.RowKit Leb

/-- What the law has in memory: the type's box, the limits' box. -/
structure Bx (w W : World) (x0 x1 : Value) (a : Int) (cap : Bool) (b : Int) : Prop where
  below : Below w.heap.size w W
  size : w.heap.size + 1 < W.heap.size
  c0 : W.cell? ⟨w.heap.size, 0, none⟩ = some x0
  c1 : W.cell? ⟨w.heap.size, 1, none⟩ = some x1
  d0 : W.cell? ⟨w.heap.size + 1, 0, none⟩ = some (.int .i64 a)
  d1 : W.cell? ⟨w.heap.size + 1, 1, none⟩ = some (.bool cap)
  d2 : W.cell? ⟨w.heap.size + 1, 2, none⟩ = some (.int .i64 b)
theorem Bx.keep {w W W' : World} {x0 x1 : Value} {a : Int} {cap : Bool} {b : Int} (h : Bx w W x0 x1 a cap b) (h' : Below W.heap.size W W') : Bx w W' x0 x1 a cap b := by
  have hs := h.size
  have C : ∀ p : Addr, p.block ≤ w.heap.size + 1 → W'.cell? p = W.cell? p := fun p hp => h'.cell (by omega)
  exact ⟨h.below.trans (h'.mono h.below.size), by have := h'.size; omega, (C _ (by simp)).trans h.c0, (C _ (by simp)).trans h.c1, (C _ (by simp)).trans h.d0, (C _ (by simp)).trans h.d1, (C _ (by simp)).trans h.d2⟩
theorem bx_of (w : World) (x0 x1 : Value) (a : Int) (cap : Bool) (b : Int) (t t' : TypeId) : Bx w ((w.alloc (.cells #[x0, x1] t)).alloc (.cells #[.int .i64 a, .bool cap, .int .i64 b] t')) x0 x1 a cap b := by
  have hbel : Below w.heap.size w ((w.alloc (.cells #[x0, x1] t)).alloc (.cells #[.int .i64 a, .bool cap, .int .i64 b] t')) := ((Below.refl _ _).alloc (Nat.le_refl _) _).alloc (by simp) _
  have hs1 : (w.alloc (.cells #[x0, x1] t)).heap.size = w.heap.size + 1 := by simp
  have hh := (MapKept.heap_alloc (w.alloc (.cells #[x0, x1] t)) (.cells #[.int .i64 a, .bool cap, .int .i64 b] t')).1
  have hr := (MapKept.heap_alloc (w.alloc (.cells #[x0, x1] t)) (.cells #[.int .i64 a, .bool cap, .int .i64 b] t')).2 w.heap.size (by omega)
  rw [hs1] at hh
  rw [(MapKept.heap_alloc w _).1] at hr
  refine ⟨hbel, by simp, ?_, ?_, ?_, ?_, ?_⟩
  · simp only [World.cell?, hr]; rfl
  · simp only [World.cell?, hr]; rfl
  · simp only [World.cell?, hh]; rfl
  · simp only [World.cell?, hh]; rfl
  · simp only [World.cell?, hh]; rfl
theorem PutIs.get {w : World} {l : List Nat} {k er : Nat} {e : Ending} {w' : World} (h : PutIs w l k er e w') : ∃ A c, e = .returned (.tuple #[.slice A k c, .int .i64 (er : Int)]) ∧ Own w' w.heap.size (.slice A k c) l ∧ Bytes w' w'.heap.size A l ∧ (A = none → c = 0) ∧ k ≤ c ∧ Below w.heap.size w w' := h
section
variable (A1 A2 A4 : Option Addr) (n1 c1 n2 c2 len c4 m : Nat) (a b t : Int) (cap : Bool) (w : World) (ps rs : List Int) (lm : List Nat)
  (hm : min (len : Int) 300 = (m : Int)) (hmc : m ≤ c4) (hm3 : m ≤ 300) (hlm : lm.length = m) (hslc : Slc w A4 c4 lm) (hn1 : ps.length = n1) (hn2 : rs.length = n2)
  (hft : FType w (.agg #[.slice A1 n1 c1, .slice A2 n2 c2]) ps rs)
  (fb lb bb : List Nat) (k1 e1 k2 e2 k3 e3 : Nat)
  (hk1 : fb.length = k1) (hk1' : k1 ≤ 100) (hfb : ∀ x ∈ fb, x < 256) (he1 : e1 = 0 ∧ n1 ≤ 8 ∧ n2 ≤ 8 ∨ e1 = 2)
  (hk2 : lb.length = k2) (hk2' : k2 ≤ 100) (hlb : ∀ x ∈ lb, x < 256) (he2 : e2 = 0 ∧ 0 ≤ a ∧ 0 ≤ b ∨ e2 = 2)
  (hk3 : bb.length = k3) (hk3' : k3 ≤ 100) (hbb : ∀ x ∈ bb, x < 256) (he3 : e3 = 0 ∨ e3 = 2)
  (HA : Hid (∀ W, Below w.heap.size w W → Calls Try.prog 7 #[] W fun e w' => e = .returned (.bool true) ∧ Below W.heap.size W w'))
  (HPF : Hid (∀ W, Below w.heap.size w W → Calls Try.prog 17 #[.slice none 0 0, .agg #[.slice A1 n1 c1, .slice A2 n2 c2]] W (PutIs W fb k1 e1)))
  (HPL : Hid (∀ W, Below w.heap.size w W → Calls Try.prog 22 #[.slice none 0 0, .agg #[.int .i64 a, .bool cap, .int .i64 b]] W (PutIs W lb k2 e2)))
  (HPB : Hid (∀ W, Below w.heap.size w W → Calls Try.prog 25 #[.slice none 0 0, .int .i64 t] W (PutIs W bb k3 e3)))
  (HF : Hid (e1 = 0 → ∀ W A c, Below w.heap.size w W → Slc W A c (fb ++ lm) → Calls Try.prog 8 #[.slice A (k1 + m) c] W (Func3 W (ps, rs, k1, 0))))
  (HL : Hid (e2 = 0 → ∀ W A c, Below w.heap.size w W → Slc W A c (lb ++ lm) → Calls Try.prog 11 #[.slice A (k2 + m) c] W (Lim3 W a cap b k2 0)))
  (HB : Hid (e3 = 0 → ∀ W A c, Below w.heap.size w W → Slc W A c (bb ++ lm) → Calls Try.prog 13 #[.slice A (k3 + m) c] W (Block3 W (t, k3, 0))))
include hm hmc hm3 hlm hslc hn1 hn2 hft hk1 hk1' hfb he1 hk2 hk2' hlb he2 hk3 hk3' hbb he3 HA HPF HPL HPB HF HL HB
set_option maxHeartbeats 4000000 in
set_option maxRecDepth 100000 in
theorem back_walk :
    Calls Try.prog 5 #[.agg #[.slice A1 n1 c1, .slice A2 n2 c2], .agg #[.int .i64 a, .bool cap, .int .i64 b], .int .i64 t, .slice A4 len c4] w fun e w' => e = .returned (.bool true) ∧ Below w.heap.size w w' := by
  have HN1 := Lib.hid hn1
  have HN2 := Lib.hid hn2
  have HLM := Lib.hid hlm
  have HSL := Lib.hid hslc
  have HFT := Lib.hid hft
  have HK1 := Lib.hid hk1
  have HK2 := Lib.hid hk2
  have HK3 := Lib.hid hk3
  have HFB := Lib.hid hfb
  have HLB := Lib.hid hlb
  have HBB := Lib.hid hbb
  have HE1 := Lib.hid he1
  have HE2 := Lib.hid he2
  have HE3 := Lib.hid he3
  have HBX := Lib.hid (bx_of w (.slice A1 n1 c1) (.slice A2 n2 c2) a cap b 26 34)
  clear hn1 hn2 hlm hslc hft hk1 hk2 hk3 hfb hlb hbb he1 he2 he3
  go_enter Try.func5, Try.ntmps5
  go_upto_region 3 with (go_at_call 7; refine (HA.out _ HBX.out.below).mono ?_; rintro e w1 ⟨rfl, hb1⟩)
  have HB1 := Lib.hid (HBX.out.keep hb1)
  clear HBX hb1 HA
  go_cut [3] (fun s3 wx => s3 = .slice A4 m c4 ∧ wx = w1)
  case first =>
    by_cases hs : (len : Int) ≤ 300
    · obtain rfl : len = m := by omega
      go_wp2
      go_meet
      exact ⟨rfl, rfl⟩
    · obtain rfl : m = 300 := by omega
      have hc3 : (300 : Int) ≤ (c4 : Int) := by omega
      go_wp2
      go_meet
      exact ⟨rfl, rfl⟩
  case rest =>
    obtain ⟨rfl, rfl⟩ := hcut
    clear hm
    have q0 := HB1.out.c0
    have q1 := HB1.out.c1
    go_wp2_with fail
    refine (HPF.out _ HB1.out.below).mono ?_
    intro e w2 hput
    obtain ⟨Ab, cb, rfl, hown, hBy, hnb, hcb, hb2⟩ := hput.get
    have HB2 := Lib.hid (HB1.out.keep hb2)
    have HBC := Lib.hid hb2
    clear q0 q1 hb2 hput
    go_upto_if 37 with fail
    go_cut [8] (fun s8 wx => s8 = .bool false ∧ Hid (Bx w wx (.slice A1 n1 c1) (.slice A2 n2 c2) a cap b))
    case first =>
      rcases HE1.out with ⟨rfl, hl1, hl2⟩ | rfl
      · have hBm : Bytes w2 w.heap.size A4 lm := HSL.out.bytes.below HB2.out.below
        have hnm := HSL.out.nil
        have hsz := HBC.out.size
        go_wp2_with (at_builtin; refine app_slice rfl (.tmp 39) (.tmp 40) rfl wc.heap.size _ fb rfl hown HFB.out A4 lm m c4 w.heap.size (k1 + m) HLM.out rfl hBm hnm (by rw [List.length_append, HK1.out, HLM.out]) (by omega) hsz ?_; intro A5 c5 w5 hown5 hB5 hc5 hn5 hb5)
        have hx5 := HB1.out.keep (HBC.out.trans hb5)
        have HB5 := Lib.hid hx5
        clear hBm hnm hown5 hb5 hown hBy hx5
        refine (HF.out (by trivial) _ _ _ HB5.out.below ⟨hB5, hn5, by rw [List.length_append, HK1.out, HLM.out]; exact hc5⟩).mono ?_
        rintro e w6 ⟨v6, rfl, ft6, hb6⟩
        have ft6' := ft6
        obtain ⟨A6, k6, A7, k7, rfl, _, _, _, _, _, _⟩ := ft6'
        rw [HN1.out, HN2.out] at ft6 ⊢
        have hba : Below w6.heap.size w6 (w6.alloc (.cells #[.slice A6 n1 k6, .slice A7 n2 k7] 26)) := (Below.refl _ _).alloc (Nat.le_refl _) _
        have HB7 := Lib.hid ((HB5.out.keep hb6).keep hba)
        have FT6 := Lib.hid (ft6.below hba)
        have FT1 := Lib.hid (HFT.out.below HB7.out.below)
        have q0 := HB7.out.c0
        have q1 := HB7.out.c1
        clear hba hb6 ft6 HB5 HB1 HB2 HBC hB5
        go_wp2_with fail
        generalize w6.alloc _ = w7 at *
        refine (same_yes A1 A2 A6 A7 n1 n2 c1 c2 k6 k7 ps rs w7 HN1.out HN2.out FT1.out FT6.out (by omega) (by omega)).mono ?_
        rintro e w8 ⟨rfl, hb8⟩
        have HB8 := Lib.hid (HB7.out.keep hb8)
        clear HB7 hb8 q0 q1 FT6 FT1
        go_wp2
        go_meet
        exact ⟨rfl, HB8⟩
      · go_wp2
        go_meet
        exact ⟨rfl, HB2⟩
    case rest =>
      obtain ⟨rfl, HB3⟩ := hcut
      clear HB1 HB2 HBC hown hBy HPF HF HE1 HFB HK1 hk1'
      have q0 := HB3.out.d0
      have q1 := HB3.out.d1
      have q2 := HB3.out.d2
      go_wp2_with fail
      refine (HPL.out _ HB3.out.below).mono ?_
      intro e w2 hput
      obtain ⟨Ab2, cb2, rfl, hown, hBy, hnb2, hcb2, hb2⟩ := hput.get
      have HB2 := Lib.hid (HB3.out.keep hb2)
      have HBC := Lib.hid hb2
      clear q0 q1 q2 hb2 hput HPL
      go_upto_if 66 with fail
      go_cut [8] (fun s8 wx => s8 = .bool false ∧ Hid (Bx w wx (.slice A1 n1 c1) (.slice A2 n2 c2) a cap b))
      case first =>
        rcases HE2.out with ⟨rfl, ha0, hb0⟩ | rfl
        · have hBm : Bytes w2 w.heap.size A4 lm := HSL.out.bytes.below HB2.out.below
          have hnm := HSL.out.nil
          have hsz := HBC.out.size
          go_wp2_with (at_builtin; refine app_slice rfl (.tmp 68) (.tmp 69) rfl wc.heap.size _ lb rfl hown HLB.out A4 lm m c4 w.heap.size (k2 + m) HLM.out rfl hBm hnm (by rw [List.length_append, HK2.out, HLM.out]) (by omega) hsz ?_; intro A5 c5 w5 hown5 hB5 hc5 hn5 hb5)
          have hx5 := HB3.out.keep (HBC.out.trans hb5)
          have HB5 := Lib.hid hx5
          clear hBm hnm hown5 hb5 hown hBy hx5
          refine (HL.out (by trivial) _ _ _ HB5.out.below ⟨hB5, hn5, by rw [List.length_append, HK2.out, HLM.out]; exact hc5⟩).mono ?_
          rintro e w6 ⟨rfl, hb6⟩
          unfold limV
          have hba : Below w6.heap.size w6 (w6.alloc (.cells #[.int .i64 a, .bool cap, .int .i64 b] 34)) := (Below.refl _ _).alloc (Nat.le_refl _) _
          have HB7 := Lib.hid ((HB5.out.keep hb6).keep hba)
          have q0 := HB7.out.d0
          have q1 := HB7.out.d1
          have q2 := HB7.out.d2
          clear hba hb6 HB5 HB3 HB2 HBC hB5
          go_wp2
          go_meet
          exact ⟨rfl, HB7⟩
        · go_wp2
          go_meet
          exact ⟨rfl, HB2⟩
      case rest =>
        obtain ⟨rfl, HB4⟩ := hcut
        clear HB3 HB2 HBC hown hBy HL HE2 HLB HK2 hk2'
        go_wp2_with fail
        refine (HPB.out _ HB4.out.below).mono ?_
        intro e w2 hput
        obtain ⟨Ab3, cb3, rfl, hown, hBy, hnb3, hcb3, hb2⟩ := hput.get
        have HB2 := Lib.hid (HB4.out.keep hb2)
        have HBC := Lib.hid hb2
        clear hb2 hput HPB
        rcases HE3.out with rfl | rfl
        · have hBm : Bytes w2 w.heap.size A4 lm := HSL.out.bytes.below HB2.out.below
          have hnm := HSL.out.nil
          have hsz := HBC.out.size
          go_wp2_with (at_builtin; refine app_slice rfl (.tmp 96) (.tmp 97) rfl wc.heap.size _ bb rfl hown HBB.out A4 lm m c4 w.heap.size (k3 + m) HLM.out rfl hBm hnm (by rw [List.length_append, HK3.out, HLM.out]) (by omega) hsz ?_; intro A5 c5 w5 hown5 hB5 hc5 hn5 hb5)
          have hx5 := HB4.out.keep (HBC.out.trans hb5)
          have HB5 := Lib.hid hx5
          clear hBm hnm hown5 hb5 hown hBy hx5
          refine (HB.out (by trivial) _ _ _ HB5.out.below ⟨hB5, hn5, by rw [List.length_append, HK3.out, HLM.out]; exact hc5⟩).mono ?_
          rintro e w6 ⟨rfl, hb6⟩
          have HB7 := Lib.hid (HB5.out.keep hb6)
          clear hb6 HB5 HB4 HB2 HBC hB5
          go_wp2
          go_ret
          exact ⟨rfl, HB7.out.below⟩
        · go_wp2
          go_ret
          exact ⟨rfl, HB2.out.below⟩
end
theorem funcBytes_lt (ps rs : List Int) (h : rightF ps rs = true) : (∀ x ∈ funcBytes ps rs, x < 256) ∧ (funcBytes ps rs).length ≤ 100 := by
  unfold rightF at h
  obtain ⟨⟨g1, g2⟩, ⟨g3, g4⟩⟩ := of_decide_eq_true h
  have hn : ∀ xs : List Int, xs.length ≤ 8 → (∀ x ∈ xs, x = 127 ∨ x = 126) → ∀ y ∈ natsOf xs, y < 256 := by
    intro xs h1 h2 y hy
    unfold natsOf at hy
    rcases List.mem_cons.1 hy with rfl | hy
    · omega
    · obtain ⟨z, hz, rfl⟩ := List.mem_map.1 hy
      have := h2 z hz
      omega
  refine ⟨fun x hx => ?_, by simp [funcBytes, natsOf]; omega⟩
  unfold funcBytes at hx
  rcases List.mem_cons.1 hx with rfl | hx
  · omega
  · rcases List.mem_append.1 hx with hx | hx
    · exact hn ps g1 g2 x hx
    · exact hn rs g3 g4 x hx
theorem limBytes_lt (a b : Nat) (cap : Bool) : (∀ x ∈ limBytes a cap b, x < 256) ∧ (limBytes a cap b).length ≤ 100 := by
  have h1 := putU_len a
  have h2 := putU_len b
  unfold limBytes
  cases cap with
  | false =>
    refine ⟨fun x hx => ?_, by simp; omega⟩
    rcases List.mem_cons.1 hx with rfl | hx
    · omega
    · exact putU_lt a x hx
  | true =>
    refine ⟨fun x hx => ?_, by simp; omega⟩
    rcases List.mem_cons.1 hx with rfl | hx
    · omega
    · rcases List.mem_append.1 hx with hx | hx
      · exact putU_lt a x hx
      · exact putU_lt b x hx
/-- What is put, behind nothing. -/
theorem putRes_nil (ok : Bool) (m : List Nat) (hl : ok = true → m.length ≤ 100) (hm : ok = true → ∀ x ∈ m, x < 256) : (putRes ok [] m).1.length ≤ 100 ∧ (∀ x ∈ (putRes ok [] m).1, x < 256) ∧ ((putRes ok [] m).2 = 0 ∧ ok = true ∨ (putRes ok [] m).2 = 2) ∧ ((putRes ok [] m).2 = 0 → ok = true ∧ (putRes ok [] m).1 = m) := by
  unfold putRes
  cases ok with
  | false => simp
  | true => simpa using ⟨hl rfl, hm rfl⟩
theorem back_law {T : World → Prop} (D : Does T) (v : Value) (ps rs : List Int) (a b t : Int) (cap : Bool) (A4 : Option Addr) (l0 : List Nat) (c4 : Nat) (w : World) (hT : T w) (hft : FType w v ps rs) (hp : ps.length ≤ maxLen) (hr : rs.length ≤ maxLen) (ha : I64 a) (hb : I64 b) (ht : I64 t) (hs0 : Slc w A4 c4 l0) :
    Calls Try.prog 5 #[v, limV a cap b, .int .i64 t, .slice A4 l0.length c4] w fun e w' => e = .returned (.bool true) ∧ Below w.heap.size w w' := by
  have hft0 := hft
  obtain ⟨A1, c1, A2, c2, rfl, _, _, _, _, _, _⟩ := hft0
  obtain ⟨l, hl⟩ : ∃ l, l = l0.take 300 := ⟨_, rfl⟩
  have hs : Slc w A4 c4 l := by rw [hl]; exact hs0.take 300
  have hlen : min (l0.length : Int) 300 = (l.length : Int) := by rw [hl, List.length_take]; omega
  have hl300 : l.length ≤ 300 := by rw [hl, List.length_take]; omega
  have hnil : ∀ W : World, Slc W none 0 [] := fun W => ⟨⟨by simp, by simp⟩, fun _ => rfl, Nat.le_refl _⟩
  obtain ⟨f1, f2, f3, f4⟩ := putRes_nil (rightF ps rs) (funcBytes ps rs) (fun h => (funcBytes_lt ps rs h).2) (fun h => (funcBytes_lt ps rs h).1)
  obtain ⟨g1, g2, g3, g4⟩ := putRes_nil (rightLim a cap b) (limBytes a.toNat cap b.toNat) (fun _ => (limBytes_lt _ _ _).2) (fun _ => (limBytes_lt _ _ _).1)
  obtain ⟨d1, d2, d3, d4⟩ := putRes_nil (rightBlock t) (putS t) (fun _ => by have := putS_len t; omega) (fun _ => putS_lt t)
  refine back_walk A1 A2 A4 ps.length c1 rs.length c2 l0.length c4 l.length a b t cap w ps rs l hlen hs.room hl300 rfl hs rfl rfl hft
    (putRes (rightF ps rs) [] (funcBytes ps rs)).1 (putRes (rightLim a cap b) [] (limBytes a.toNat cap b.toNat)).1 (putRes (rightBlock t) [] (putS t)).1 _ (putRes (rightF ps rs) [] (funcBytes ps rs)).2 _ (putRes (rightLim a cap b) [] (limBytes a.toNat cap b.toNat)).2 _ (putRes (rightBlock t) [] (putS t)).2
    rfl f1 f2 ?_ rfl g1 g2 ?_ rfl d1 d2 ?_ (Lib.hid fun W hW => awake_any D W (D.keep _ _ hT hW)) (Lib.hid fun W hW => ?_) (Lib.hid fun W hW => ?_) (Lib.hid fun W hW => ?_) (Lib.hid fun he W A c hW hS => ?_) (Lib.hid fun he W A c hW hS => ?_) (Lib.hid fun he W A c hW hS => ?_)
  · rcases f3 with ⟨h1, h2⟩ | h
    · unfold rightF at h2
      obtain ⟨⟨q1, _⟩, ⟨q2, _⟩⟩ := of_decide_eq_true h2
      exact .inl ⟨h1, q1, q2⟩
    · exact .inr h
  · rcases g3 with ⟨h1, h2⟩ | h
    · unfold rightLim at h2
      have := of_decide_eq_true h2
      exact .inl ⟨h1, this.1, this.2.2.1⟩
    · exact .inr h
  · exact d3.imp (fun h => h.1) id
  · exact D.putFunc none [] 0 _ _ ps rs W (hnil W) (by simp) (hft.below hW) hp hr rfl (D.keep _ _ hT hW)
  · exact D.putLimits none [] 0 _ a b cap W (hnil W) (by simp) ha hb rfl (D.keep _ _ hT hW)
  · exact D.putBlock none [] 0 _ t W (hnil W) (by simp) ht rfl (D.keep _ _ hT hW)
  · obtain ⟨ok, hm⟩ := f4 he
    have := D.func A _ c W hS (by rw [List.length_append]; omega) (D.keep _ _ hT hW)
    rw [List.length_append, hm, funcRes_put ps rs l ok] at this
    rw [hm]
    exact this
  · obtain ⟨ok, hm⟩ := g4 he
    have := D.limits A _ c W hS (by rw [List.length_append]; omega) (D.keep _ _ hT hW)
    unfold rightLim at ok
    obtain ⟨r1, r2, r3, r4, r5⟩ := of_decide_eq_true ok
    rw [List.length_append, hm, limRes_put a.toNat b.toNat cap l (by omega) (by omega) (by rcases r5 with h | h; exact .inl h; exact .inr (by omega))] at this
    rw [hm]
    simp only [Int.toNat_of_nonneg r1, Int.toNat_of_nonneg r3] at this
    exact this
  · obtain ⟨ok, hm⟩ := d4 he
    have := D.block A _ c W hS (by rw [List.length_append]; omega) (D.keep _ _ hT hW)
    rw [List.length_append, hm, blockRes_put t l ok] at this
    rw [hm]
    exact this
end Go.Proofs.Ythhdbjpimjkekaa.Typ
