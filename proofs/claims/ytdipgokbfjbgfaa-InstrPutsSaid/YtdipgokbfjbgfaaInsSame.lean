/-
  InsSame: trammelref06.Same, SameAll, Short: what each comes to. Conditions: instructions lie in memory as values or as a slice's cells; their lists of labels are fewer than 2^47.
-/
import Derived.Test.YtdipgokbfjbgfaaInsPlain
import Derived.Test.YtdipgokbfjbgfaaTypAll
import Derived.Deep.RegionHeldLaw
import Derived.Deep.DeepCutAuto
namespace Go.Proofs.Ytdipgokbfjbgfaa.Ins
open Go.RowKit Leb Typ

/-- Two boxes of five cells. -/
structure Ten (w W : World) (g h : Nat) (p q : Ins) (A A' : Option Addr) (n n' c c' : Nat) : Prop where
  below : Below w.heap.size w W
  x0 : W.cell? ⟨g, 0, none⟩ = some (.int .i64 p.op)
  x1 : W.cell? ⟨g, 1, none⟩ = some (.int .i64 p.a)
  x2 : W.cell? ⟨g, 2, none⟩ = some (.int .i64 p.b)
  x3 : W.cell? ⟨g, 3, none⟩ = some (.int .i64 p.k)
  x4 : W.cell? ⟨g, 4, none⟩ = some (.slice A n c)
  y0 : W.cell? ⟨h, 0, none⟩ = some (.int .i64 q.op)
  y1 : W.cell? ⟨h, 1, none⟩ = some (.int .i64 q.a)
  y2 : W.cell? ⟨h, 2, none⟩ = some (.int .i64 q.b)
  y3 : W.cell? ⟨h, 3, none⟩ = some (.int .i64 q.k)
  y4 : W.cell? ⟨h, 4, none⟩ = some (.slice A' n' c')
theorem ten_of (w : World) (p q : Ins) (A A' : Option Addr) (n n' c c' : Nat) (t t' : TypeId) :
    Ten w ((w.alloc (.cells #[.int .i64 p.op, .int .i64 p.a, .int .i64 p.b, .int .i64 p.k, .slice A n c] t)).alloc (.cells #[.int .i64 q.op, .int .i64 q.a, .int .i64 q.b, .int .i64 q.k, .slice A' n' c'] t')) w.heap.size (w.heap.size + 1) p q A A' n n' c c' := by
  have hs1 : (w.alloc (.cells #[.int .i64 p.op, .int .i64 p.a, .int .i64 p.b, .int .i64 p.k, .slice A n c] t)).heap.size = w.heap.size + 1 := by simp
  have hh := (MapKept.heap_alloc (w.alloc (.cells #[.int .i64 p.op, .int .i64 p.a, .int .i64 p.b, .int .i64 p.k, .slice A n c] t)) (.cells #[.int .i64 q.op, .int .i64 q.a, .int .i64 q.b, .int .i64 q.k, .slice A' n' c'] t')).1
  have hr := (MapKept.heap_alloc (w.alloc (.cells #[.int .i64 p.op, .int .i64 p.a, .int .i64 p.b, .int .i64 p.k, .slice A n c] t)) (.cells #[.int .i64 q.op, .int .i64 q.a, .int .i64 q.b, .int .i64 q.k, .slice A' n' c'] t')).2 w.heap.size (by omega)
  rw [hs1] at hh
  rw [(MapKept.heap_alloc w _).1] at hr
  exact ⟨((Below.refl _ _).alloc (Nat.le_refl _) _).alloc (by simp) _, by simp only [World.cell?, hr]; rfl, by simp only [World.cell?, hr]; rfl, by simp only [World.cell?, hr]; rfl, by simp only [World.cell?, hr]; rfl, by simp only [World.cell?, hr]; rfl,
    by simp only [World.cell?, hh]; rfl, by simp only [World.cell?, hh]; rfl, by simp only [World.cell?, hh]; rfl, by simp only [World.cell?, hh]; rfl, by simp only [World.cell?, hh]; rfl⟩
section
variable (A A' : Option Addr) (n n' c c' : Nat) (p q : Ins) (w : World)
set_option maxHeartbeats 1000000 in
set_option maxRecDepth 100000 in
theorem same_no0 (e0 : (p.op == q.op) = false) :
    Calls Try.prog 23 #[.agg #[.int .i64 p.op, .int .i64 p.a, .int .i64 p.b, .int .i64 p.k, .slice A n c], .agg #[.int .i64 q.op, .int .i64 q.a, .int .i64 q.b, .int .i64 q.k, .slice A' n' c']] w (Tells w false) := by
  have HT := Lib.hid (ten_of w p q A A' n n' c c' 25 25)
  generalize hB : w.heap.size + 1 = h at HT
  go_enter Try.func23, Try.ntmps23
  go_upto_region 1 with fail
  simp only [hB] at *
  generalize (w.alloc _).alloc _ = W at *
  obtain ⟨hb, x0, x1, x2, x3, x4, y0, y1, y2, y3, y4⟩ := HT.out
  go_wp2
  go_ret
  exact ⟨rfl, hb⟩
set_option maxHeartbeats 1000000 in
set_option maxRecDepth 100000 in
theorem same_no1 (e0 : (p.op == q.op) = true) (e1 : (p.a == q.a) = false) :
    Calls Try.prog 23 #[.agg #[.int .i64 p.op, .int .i64 p.a, .int .i64 p.b, .int .i64 p.k, .slice A n c], .agg #[.int .i64 q.op, .int .i64 q.a, .int .i64 q.b, .int .i64 q.k, .slice A' n' c']] w (Tells w false) := by
  have HT := Lib.hid (ten_of w p q A A' n n' c c' 25 25)
  generalize hB : w.heap.size + 1 = h at HT
  go_enter Try.func23, Try.ntmps23
  go_upto_region 1 with fail
  simp only [hB] at *
  generalize (w.alloc _).alloc _ = W at *
  obtain ⟨hb, x0, x1, x2, x3, x4, y0, y1, y2, y3, y4⟩ := HT.out
  go_wp2
  go_ret
  exact ⟨rfl, hb⟩
set_option maxHeartbeats 1000000 in
set_option maxRecDepth 100000 in
theorem same_no2 (e0 : (p.op == q.op) = true) (e1 : (p.a == q.a) = true) (e2 : (p.b == q.b) = false) :
    Calls Try.prog 23 #[.agg #[.int .i64 p.op, .int .i64 p.a, .int .i64 p.b, .int .i64 p.k, .slice A n c], .agg #[.int .i64 q.op, .int .i64 q.a, .int .i64 q.b, .int .i64 q.k, .slice A' n' c']] w (Tells w false) := by
  have HT := Lib.hid (ten_of w p q A A' n n' c c' 25 25)
  generalize hB : w.heap.size + 1 = h at HT
  go_enter Try.func23, Try.ntmps23
  go_upto_region 1 with fail
  simp only [hB] at *
  generalize (w.alloc _).alloc _ = W at *
  obtain ⟨hb, x0, x1, x2, x3, x4, y0, y1, y2, y3, y4⟩ := HT.out
  go_wp2
  go_ret
  exact ⟨rfl, hb⟩
set_option maxHeartbeats 1000000 in
set_option maxRecDepth 100000 in
theorem same_no3 (e0 : (p.op == q.op) = true) (e1 : (p.a == q.a) = true) (e2 : (p.b == q.b) = true) (e3 : (p.k == q.k) = false) :
    Calls Try.prog 23 #[.agg #[.int .i64 p.op, .int .i64 p.a, .int .i64 p.b, .int .i64 p.k, .slice A n c], .agg #[.int .i64 q.op, .int .i64 q.a, .int .i64 q.b, .int .i64 q.k, .slice A' n' c']] w (Tells w false) := by
  have HT := Lib.hid (ten_of w p q A A' n n' c c' 25 25)
  generalize hB : w.heap.size + 1 = h at HT
  go_enter Try.func23, Try.ntmps23
  go_upto_region 1 with fail
  simp only [hB] at *
  generalize (w.alloc _).alloc _ = W at *
  obtain ⟨hb, x0, x1, x2, x3, x4, y0, y1, y2, y3, y4⟩ := HT.out
  go_wp2
  go_ret
  exact ⟨rfl, hb⟩
set_option maxHeartbeats 1000000 in
set_option maxRecDepth 100000 in
theorem same_ints (e0 : (p.op == q.op) = true) (e1 : (p.a == q.a) = true) (e2 : (p.b == q.b) = true) (e3 : (p.k == q.k) = true) (bb : Bool) (HS : Hid (∀ W, Below w.heap.size w W → Calls Try.prog 41 #[.slice A n c, .slice A' n' c'] W fun e w' => e = .returned (.bool bb) ∧ ∃ m, w' = W.drewN m)) :
    Calls Try.prog 23 #[.agg #[.int .i64 p.op, .int .i64 p.a, .int .i64 p.b, .int .i64 p.k, .slice A n c], .agg #[.int .i64 q.op, .int .i64 q.a, .int .i64 q.b, .int .i64 q.k, .slice A' n' c']] w (Tells w bb) := by
  have HT := Lib.hid (ten_of w p q A A' n n' c c' 25 25)
  generalize hB : w.heap.size + 1 = h at HT
  go_enter Try.func23, Try.ntmps23
  go_upto_region 1 with fail
  simp only [hB] at *
  generalize (w.alloc _).alloc _ = W at *
  obtain ⟨hb, x0, x1, x2, x3, x4, y0, y1, y2, y3, y4⟩ := HT.out
  go_wp2_with fail
  refine (HS.out _ hb).mono ?_
  rintro e w2 ⟨rfl, m, rfl⟩
  go_wp2
  go_ret
  exact ⟨rfl, below_drewN hb m⟩
end
theorem same_any (v v' : Value) (p q : Ins) (w : World) (hv : InsV w v p) (hv' : InsV w v' q) (hl : p.l.length ≤ 140737488355328) (hl' : q.l.length ≤ 140737488355328) :
    Calls Try.prog 23 #[v, v'] w (Tells w (decide (p = q))) := by
  obtain ⟨A, c, rfl, hi, _, _⟩ := hv
  obtain ⟨A', c', rfl, hi', _, _⟩ := hv'
  have neq : ∀ {P : Prop}, P → (p = q → ¬ P) → decide (p = q) = false := fun h1 h2 => decide_eq_false fun h => h2 h h1
  by_cases h0 : p.op = q.op
  · by_cases h1 : p.a = q.a
    · by_cases h2 : p.b = q.b
      · by_cases h3 : p.k = q.k
        · have := same_ints A A' _ _ c c' p q w (by simp [h0]) (by simp [h1]) (by simp [h2]) (by simp [h3]) _ (Lib.hid fun W hW => sameInts_any A A' p.l q.l c c' _ _ W (hi.below hW) (hi'.below hW) hl hl')
          have he : decide (p.l = q.l) = decide (p = q) := by
            apply decide_eq_decide.2
            constructor
            · intro h4
              obtain ⟨_, _, _, _, _⟩ := p
              obtain ⟨_, _, _, _, _⟩ := q
              simp only at h0 h1 h2 h3 h4
              subst h0 h1 h2 h3 h4
              rfl
            · intro h; rw [h]
          rw [he] at this
          exact this
        · rw [decide_eq_false (fun h => h3 (by rw [h]))]
          exact same_no3 A A' _ _ c c' p q w (by simp [h0]) (by simp [h1]) (by simp [h2]) (by simp [h3])
      · rw [decide_eq_false (fun h => h2 (by rw [h]))]
        exact same_no2 A A' _ _ c c' p q w (by simp [h0]) (by simp [h1]) (by simp [h2])
    · rw [decide_eq_false (fun h => h1 (by rw [h]))]
      exact same_no1 A A' _ _ c c' p q w (by simp [h0]) (by simp [h1])
  · rw [decide_eq_false (fun h => h0 (by rw [h]))]
    exact same_no0 A A' _ _ c c' p q w (by simp [h0])
/-- An instruction's five cells. -/
def Five (W : World) (b off : Nat) (op a bb k : Int) (A : Option Addr) (n c : Nat) : Prop :=
  W.cell? ⟨b, off, none⟩ = some (.int .i64 op) ∧ W.cell? ⟨b, off + 1, none⟩ = some (.int .i64 a) ∧ W.cell? ⟨b, off + 2, none⟩ = some (.int .i64 bb) ∧ W.cell? ⟨b, off + 3, none⟩ = some (.int .i64 k) ∧ W.cell? ⟨b, off + 4, none⟩ = some (.slice A n c)
theorem InsAt.five {w : World} {B b off : Nat} {x : Ins} (h : InsAt w B b off x) : ∃ A c, Five w b off x.op x.a x.b x.k A x.l.length c ∧ Ints w B A x.l ∧ x.l.length ≤ c ∧ (A = none → c = 0) := by
  obtain ⟨A, c, h1, h2, h3, h4, h5, h6, h7, h8⟩ := h
  exact ⟨A, c, ⟨h1, h2, h3, h4, h5⟩, h6, h7, h8⟩
theorem take_nextX {l l' : List Ins} {k : Nat} (h : k < l.length) (h' : k < l'.length) (ht : l.take k = l'.take k) (he : l[k] = l'[k]) : l.take (k + 1) = l'.take (k + 1) := by
  rw [List.take_succ_eq_append_getElem h, List.take_succ_eq_append_getElem h', ht, he]
set_option maxHeartbeats 1000000 in
set_option maxRecDepth 100000 in
theorem sameAll_any (A A' : Option Addr) (l l' : List Ins) (c c' : Nat) (w : World) (hb : Inss w w.heap.size A l) (hb' : Inss w w.heap.size A' l') (hlen : l.length ≤ 100000) (hlen' : l'.length ≤ 100000) (hs : ∀ x ∈ l, x.l.length ≤ 100000) (hs' : ∀ x ∈ l', x.l.length ≤ 100000) :
    Calls Try.prog 21 #[.slice A l.length c, .slice A' l'.length c'] w (Tells w (decide (l = l'))) := by
  by_cases hll : l.length = l'.length
  · have hne : ((l.length : Int) != (l'.length : Int)) = false := by simp; omega
    have HLL := Lib.hid hll
    clear hll
    go_enter Try.func21, Try.ntmps21
    go_wp2
    go_loopw [5] (fun i wr => ∃ k : Nat, k ≤ l.length ∧ i = .int .i64 (k : Int) ∧ Hid (l.take k = l'.take k) ∧ Below w.heap.size w wr) (fun i _ => l.length - (intOf i).toNat)
    case atStart => exact ⟨0, Nat.zero_le _, rfl, Lib.hid rfl, Below.refl _ _⟩
    case round =>
      obtain ⟨j, hj, rfl, ht, hbel⟩ := hrel
      by_cases hl : j < l.length
      · have hl' : j < l'.length := by have := HLL.out; omega
        obtain ⟨b, off, rfl, hbb, hcs⟩ := (hb.below hbel) (by omega)
        obtain ⟨b', off', rfl, hbb', hcs'⟩ := (hb'.below hbel) (by omega)
        obtain ⟨A1, c1, hf1, hi1, hr1, hn1⟩ := (hcs j hl).five
        obtain ⟨A2, c2, hf2, hi2, hr2, hn2⟩ := (hcs' j hl').five
        have hx1 := hs _ (List.getElem_mem hl)
        have hx2 := hs' _ (List.getElem_mem hl')
        have hli : (j : Int) < (l.length : Int) := by omega
        have hli' : (j : Int) < (l'.length : Int) := by omega
        have hsz := hbel.size
        have HNX : Hid (l[j] = l'[j] → l.take (j + 1) = l'.take (j + 1)) := Lib.hid fun h => take_nextX hl hl' ht.out h
        have HNO : Hid (l[j] ≠ l'[j] → decide (l = l') = false) := Lib.hid fun h => decide_eq_false fun e => h (by subst e; rfl)
        generalize l[j] = p at *
        generalize l'[j] = q at *
        have HC : Hid (∀ W, Below w.heap.size w W → Calls Try.prog 23 #[.agg #[.int .i64 p.op, .int .i64 p.a, .int .i64 p.b, .int .i64 p.k, .slice A1 p.l.length c1], .agg #[.int .i64 q.op, .int .i64 q.a, .int .i64 q.b, .int .i64 q.k, .slice A2 q.l.length c2]] W (Tells W (decide (p = q)))) := Lib.hid fun W hW => by
          have g1 : Ints W W.heap.size A1 p.l := by
            intro h; obtain ⟨x, y, e, h1, h2⟩ := hi1 h; exact ⟨x, y, e, Nat.lt_of_lt_of_le h1 hW.size, fun i hi => (hW.cell h1).trans ((hbel.cell h1).symm.trans (h2 i hi))⟩
          have g2 : Ints W W.heap.size A2 q.l := by
            intro h; obtain ⟨x, y, e, h1, h2⟩ := hi2 h; exact ⟨x, y, e, Nat.lt_of_lt_of_le h1 hW.size, fun i hi => (hW.cell h1).trans ((hbel.cell h1).symm.trans (h2 i hi))⟩
          exact same_any _ _ p q W ⟨A1, c1, rfl, g1, hr1, hn1⟩ ⟨A2, c2, rfl, g2, hr2, hn2⟩ (by omega) (by omega)
        obtain ⟨u0, u1, u2, u3, u4⟩ := hf1
        obtain ⟨v0, v1, v2, v3, v4⟩ := hf2
        have hbw : b < wr.heap.size := Nat.lt_of_lt_of_le hbb hsz
        have hbw' : b' < wr.heap.size := Nat.lt_of_lt_of_le hbb' hsz
        generalize p.l.length = n1 at *
        generalize q.l.length = n2 at *
        clear hcs hcs' hi1 hi2 hr1 hr2 hn1 hn2 hx1 hx2 ht hbb hbb'
        go_wp2_with fail
        refine wp_region_held_drew (S := fun V => V.cell? ⟨b, off + j * 5, none⟩ = some (.int .i64 p.op) ∧ V.cell? ⟨b, off + j * 5 + 1, none⟩ = some (.int .i64 p.a) ∧ V.cell? ⟨b, off + j * 5 + 2, none⟩ = some (.int .i64 p.b) ∧ V.cell? ⟨b, off + j * 5 + 3, none⟩ = some (.int .i64 p.k) ∧ V.cell? ⟨b, off + j * 5 + 4, none⟩ = some (.slice A1 n1 c1) ∧ V.cell? ⟨b', off' + j * 5, none⟩ = some (.int .i64 q.op) ∧ V.cell? ⟨b', off' + j * 5 + 1, none⟩ = some (.int .i64 q.a) ∧ V.cell? ⟨b', off' + j * 5 + 2, none⟩ = some (.int .i64 q.b) ∧ V.cell? ⟨b', off' + j * 5 + 3, none⟩ = some (.int .i64 q.k) ∧ V.cell? ⟨b', off' + j * 5 + 4, none⟩ = some (.slice A2 n2 c2)) (by kernel_rfl) ⟨u0, u1, u2, u3, u4, v0, v1, v2, v3, v4⟩ (fun hS => ?_)
        have hbel1 : Below w.heap.size w wr.drew := hbel.drew
        have hbw1 : b < wr.drew.heap.size := hbw
        have hbw1' : b' < wr.drew.heap.size := hbw'
        clear u0 u1 u2 u3 u4 v0 v1 v2 v3 v4 hbel hsz hbw hbw'
        generalize wr.drew = V at *
        refine wpAnyH_take (i := 0) (oi := { dst := some 17, op := .move (.tmp 0), type := 26, pos := "ref.go:211", after := #[], guard := none }) (v := ?_) rfl (by kernel_rfl) (by kernel_rfl) (by kernel_rfl) (fun _ _ _ h => h) (Or.inl ⟨by rfl, ?_⟩) hS ?_
        rotate_left
        · (intro w' hS'; obtain ⟨s0, s1, s2, s3, s4, t0, t1, t2, t3, t4⟩ := hS'; go_simp) <;> with_reducible rfl
        try simp only [Act.put, List.setIfInBounds_toArray, List.set_cons_zero, List.set_cons_succ]
        refine wpAnyH_take (i := 1) (oi := { dst := some 18, op := .move (.tmp 5), type := 3, pos := "ref.go:211", after := #[], guard := none }) (v := ?_) rfl (by kernel_rfl) (by kernel_rfl) (by kernel_rfl) (fun _ _ _ h => h) (Or.inl ⟨by rfl, ?_⟩) hS ?_
        rotate_left
        · (intro w' hS'; obtain ⟨s0, s1, s2, s3, s4, t0, t1, t2, t3, t4⟩ := hS'; go_simp) <;> with_reducible rfl
        try simp only [Act.put, List.setIfInBounds_toArray, List.set_cons_zero, List.set_cons_succ]
        refine wpAnyH_take (i := 2) (oi := { dst := some 19, op := .indexAddr 26 (.tmp 17) (.tmp 18), type := 0, pos := "ref.go:211", after := #[{ on := 0, ground := .data }, { on := 1, ground := .data }], guard := none }) (v := ?_) rfl (by kernel_rfl) (by kernel_rfl) (by kernel_rfl) (fun _ _ _ h => h) (Or.inl ⟨by rfl, ?_⟩) hS ?_
        rotate_left
        · (intro w' hS'; obtain ⟨s0, s1, s2, s3, s4, t0, t1, t2, t3, t4⟩ := hS'; go_simp) <;> with_reducible rfl
        try simp only [Act.put, List.setIfInBounds_toArray, List.set_cons_zero, List.set_cons_succ]
        refine wpAnyH_take (i := 3) (oi := { dst := some 20, op := .load 25 (.tmp 19), type := 25, pos := "ref.go:211", after := #[{ on := 2, ground := .data }], guard := none }) (v := ?_) rfl (by kernel_rfl) (by kernel_rfl) (by kernel_rfl) (fun _ _ _ h => h) (Or.inl ⟨by rfl, ?_⟩) hS ?_
        rotate_left
        · (intro w' hS'; obtain ⟨s0, s1, s2, s3, s4, t0, t1, t2, t3, t4⟩ := hS'; go_simp) <;> with_reducible rfl
        try simp only [Act.put, List.setIfInBounds_toArray, List.set_cons_zero, List.set_cons_succ]
        refine wpAnyH_take (i := 4) (oi := { dst := some 21, op := .move (.tmp 1), type := 26, pos := "ref.go:211", after := #[], guard := none }) (v := ?_) rfl (by kernel_rfl) (by kernel_rfl) (by kernel_rfl) (fun _ _ _ h => h) (Or.inl ⟨by rfl, ?_⟩) hS ?_
        rotate_left
        · (intro w' hS'; obtain ⟨s0, s1, s2, s3, s4, t0, t1, t2, t3, t4⟩ := hS'; go_simp) <;> with_reducible rfl
        try simp only [Act.put, List.setIfInBounds_toArray, List.set_cons_zero, List.set_cons_succ]
        refine wpAnyH_take (i := 5) (oi := { dst := some 22, op := .move (.tmp 5), type := 3, pos := "ref.go:211", after := #[], guard := none }) (v := ?_) rfl (by kernel_rfl) (by kernel_rfl) (by kernel_rfl) (fun _ _ _ h => h) (Or.inl ⟨by rfl, ?_⟩) hS ?_
        rotate_left
        · (intro w' hS'; obtain ⟨s0, s1, s2, s3, s4, t0, t1, t2, t3, t4⟩ := hS'; go_simp) <;> with_reducible rfl
        try simp only [Act.put, List.setIfInBounds_toArray, List.set_cons_zero, List.set_cons_succ]
        refine wpAnyH_take (i := 6) (oi := { dst := some 23, op := .indexAddr 26 (.tmp 21) (.tmp 22), type := 0, pos := "ref.go:211", after := #[{ on := 4, ground := .data }, { on := 5, ground := .data }], guard := none }) (v := ?_) rfl (by kernel_rfl) (by kernel_rfl) (by kernel_rfl) (fun _ _ _ h => h) (Or.inl ⟨by rfl, ?_⟩) hS ?_
        rotate_left
        · (intro w' hS'; obtain ⟨s0, s1, s2, s3, s4, t0, t1, t2, t3, t4⟩ := hS'; go_simp) <;> with_reducible rfl
        try simp only [Act.put, List.setIfInBounds_toArray, List.set_cons_zero, List.set_cons_succ]
        refine wpAnyH_take (i := 7) (oi := { dst := some 24, op := .load 25 (.tmp 23), type := 25, pos := "ref.go:211", after := #[{ on := 6, ground := .data }], guard := none }) (v := ?_) rfl (by kernel_rfl) (by kernel_rfl) (by kernel_rfl) (fun _ _ _ h => h) (Or.inl ⟨by rfl, ?_⟩) hS ?_
        rotate_left
        · (intro w' hS'; obtain ⟨s0, s1, s2, s3, s4, t0, t1, t2, t3, t4⟩ := hS'; go_simp) <;> with_reducible rfl
        try simp only [Act.put, List.setIfInBounds_toArray, List.set_cons_zero, List.set_cons_succ]
        refine wpAnyH_ready (rs := [8]) (by kernel_rfl) (by simp) ?_
        refine AllReadyH.cons (o := { dst := some 25, op := .call { callee := .value (.func 23), args := #[.tmp 20, .tmp 24], argTypes := #[25, 25] }, type := 4, pos := "ref.go:211", after := #[{ on := 3, ground := .data }, { on := 7, ground := .data }], guard := none }) rfl (fun K hK => ?_) AllReadyH.nil
        go_simp
        refine (HC.out _ hbel1).mono ?_
        rintro e w3 ⟨rfl, hb3⟩
        have hbel3 := hbel1.trans (hb3.mono hbel1.size)
        have hS3 : (w3.cell? ⟨b, off + j * 5, none⟩ = some (.int .i64 p.op) ∧ w3.cell? ⟨b, off + j * 5 + 1, none⟩ = some (.int .i64 p.a) ∧ w3.cell? ⟨b, off + j * 5 + 2, none⟩ = some (.int .i64 p.b) ∧ w3.cell? ⟨b, off + j * 5 + 3, none⟩ = some (.int .i64 p.k) ∧ w3.cell? ⟨b, off + j * 5 + 4, none⟩ = some (.slice A1 n1 c1) ∧ w3.cell? ⟨b', off' + j * 5, none⟩ = some (.int .i64 q.op) ∧ w3.cell? ⟨b', off' + j * 5 + 1, none⟩ = some (.int .i64 q.a) ∧ w3.cell? ⟨b', off' + j * 5 + 2, none⟩ = some (.int .i64 q.b) ∧ w3.cell? ⟨b', off' + j * 5 + 3, none⟩ = some (.int .i64 q.k) ∧ w3.cell? ⟨b', off' + j * 5 + 4, none⟩ = some (.slice A2 n2 c2)) := by
          obtain ⟨s0, s1, s2, s3, s4, t0, t1, t2, t3, t4⟩ := hS
          exact ⟨(hb3.cell hbw1).trans s0, (hb3.cell hbw1).trans s1, (hb3.cell hbw1).trans s2, (hb3.cell hbw1).trans s3, (hb3.cell hbw1).trans s4, (hb3.cell hbw1').trans t0, (hb3.cell hbw1').trans t1, (hb3.cell hbw1').trans t2, (hb3.cell hbw1').trans t3, (hb3.cell hbw1').trans t4⟩
        clear hS hb3 HC
        have hS := hS3
        clear hS3
        go_wp2_with fail
        refine hK.out _ _ hS (fun _ => ?_)
        clear hK K
        try simp only [Act.put, List.setIfInBounds_toArray, List.set_cons_zero, List.set_cons_succ]
        by_cases hpq : p = q
        · have HD : decide (p = q) = true := decide_eq_true hpq
          have HN2 := Lib.hid (HNX.out hpq)
          rw [HD]
          clear hpq HD HNX HNO
          refine wpAnyH_take (i := 9) (oi := { dst := some 26, op := .unOp .not 4 (.tmp 25), type := 4, pos := "ref.go:211", after := #[{ on := 8, ground := .data }], guard := none }) (v := ?_) rfl (by kernel_rfl) (by kernel_rfl) (by kernel_rfl) (fun _ _ _ h => h) (Or.inl ⟨by rfl, ?_⟩) hS ?_
          rotate_left
          · (intro w' hS'; obtain ⟨s0, s1, s2, s3, s4, t0, t1, t2, t3, t4⟩ := hS'; go_simp) <;> with_reducible rfl
          try simp only [Act.put, List.setIfInBounds_toArray, List.set_cons_zero, List.set_cons_succ]
          refine wpAnyH_done (by kernel_rfl) ?_ _
          clear hS
          go_wp2
          go_roundw
          case rel => exact ⟨j + 1, by omega, by go_num, HN2, hbel3⟩
          case measure => simp [intOf]; omega
        · have HD : decide (p = q) = false := decide_eq_false hpq
          have HN2 := Lib.hid (HNO.out hpq)
          rw [HD]
          clear hpq HD HNX HNO
          refine wpAnyH_take (i := 9) (oi := { dst := some 26, op := .unOp .not 4 (.tmp 25), type := 4, pos := "ref.go:211", after := #[{ on := 8, ground := .data }], guard := none }) (v := ?_) rfl (by kernel_rfl) (by kernel_rfl) (by kernel_rfl) (fun _ _ _ h => h) (Or.inl ⟨by rfl, ?_⟩) hS ?_
          rotate_left
          · (intro w' hS'; obtain ⟨s0, s1, s2, s3, s4, t0, t1, t2, t3, t4⟩ := hS'; go_simp) <;> with_reducible rfl
          try simp only [Act.put, List.setIfInBounds_toArray, List.set_cons_zero, List.set_cons_succ]
          refine wpAnyH_done (by kernel_rfl) ?_ _
          clear hS
          go_wp2
          go_ret
          rw [HN2.out]
          exact ⟨rfl, hbel3⟩
      · have hli : ¬ (j : Int) < (l.length : Int) := by omega
        have HE : Hid (decide (l = l') = true) := Lib.hid (by
          have h1 := ht.out
          have h2 := HLL.out
          rw [List.take_of_length_le (by omega), List.take_of_length_le (by omega)] at h1
          exact decide_eq_true h1)
        clear hb hb' ht
        go_wp2
        go_ret
        rw [HE.out]
        exact ⟨rfl, hbel⟩
  · have hne : ((l.length : Int) != (l'.length : Int)) = true := by simp; omega
    have HE : Hid (decide (l = l') = false) := Lib.hid (decide_eq_false fun h => hll (by rw [h]))
    clear hll hb hb'
    go_enter Try.func21, Try.ntmps21
    go_wp2
    go_ret
    rw [HE.out]
    exact ⟨rfl, Below.refl _ _⟩
end Go.Proofs.Ytdipgokbfjbgfaa.Ins
