/-
  InsSame: trammelref06.Same, SameAll, Short: what each comes to. Conditions: instructions lie in memory as values or as a slice's cells; their lists of labels are fewer than 2^47.
  InsShort: trammelref06.Short: what it comes to. Condition: the slice leads to instructions.
  InsBackLaw: trammellaw06.InstrBack returns true, if instr's functions answer as the plain words do. Condition: that premise.
  InsNopsLaw: trammellaw06.InstrNops returns true, if instr's functions answer as the plain words do. Condition: that premise.
-/
import Derived.Test.YtdipgokbfjbgfaaInsMem
import Derived.Test.YtdipgokbfjbgfaaTypInts
import Derived.Deep.RegionHeldLaw
import Derived.Deep.DeepCutAuto
import Derived.Test.YtdipgokbfjbgfaaTypPlainOwn
import Derived.Test.YtdipgokbfjbgfaaInsTakenLaw
import Derived.Test.YtdipgokbfjbgfaaInsDoes
import Derived.Test.YtdipgokbfjbgfaaInsOwn
namespace Go.Proofs.Ytdipgokbfjbgfaa.Ins
open Go.RowKit Leb Typ

/-- Two boxes of five cells. -/
structure Ten (w W : World) (g h : Nat) (p q : Ins) (A A' : Option Addr) (n n' c c' : Nat) : Prop where
  below : Below w.heap.size w W
  x0 : W.cell? ⟨g, 0, none⟩ = some (.int .i64 p.op)
  x1 : W.cell? ⟨g, 1, none⟩ = some (.int .i64 p.a)
  x2 : W.cell? ⟨g, 2, none⟩ = some (.int .i64 p.b)
  x3 : W.cell? ⟨g, 3, none⟩ = some (.int .i64 p.k)
  x4 : W.cell? ⟨g, 4, none⟩ = some (.slice A n c)
  y0 : W.cell? ⟨h, 0, none⟩ = some (.int .i64 q.op)
  y1 : W.cell? ⟨h, 1, none⟩ = some (.int .i64 q.a)
  y2 : W.cell? ⟨h, 2, none⟩ = some (.int .i64 q.b)
  y3 : W.cell? ⟨h, 3, none⟩ = some (.int .i64 q.k)
  y4 : W.cell? ⟨h, 4, none⟩ = some (.slice A' n' c')
theorem ten_of (w : World) (p q : Ins) (A A' : Option Addr) (n n' c c' : Nat) (t t' : TypeId) :
    Ten w ((w.alloc (.cells #[.int .i64 p.op, .int .i64 p.a, .int .i64 p.b, .int .i64 p.k, .slice A n c] t)).alloc (.cells #[.int .i64 q.op, .int .i64 q.a, .int .i64 q.b, .int .i64 q.k, .slice A' n' c'] t')) w.heap.size (w.heap.size + 1) p q A A' n n' c c' := by
  have hs1 : (w.alloc (.cells #[.int .i64 p.op, .int .i64 p.a, .int .i64 p.b, .int .i64 p.k, .slice A n c] t)).heap.size = w.heap.size + 1 := by simp
  have hh := (MapKept.heap_alloc (w.alloc (.cells #[.int .i64 p.op, .int .i64 p.a, .int .i64 p.b, .int .i64 p.k, .slice A n c] t)) (.cells #[.int .i64 q.op, .int .i64 q.a, .int .i64 q.b, .int .i64 q.k, .slice A' n' c'] t')).1
  have hr := (MapKept.heap_alloc (w.alloc (.cells #[.int .i64 p.op, .int .i64 p.a, .int .i64 p.b, .int .i64 p.k, .slice A n c] t)) (.cells #[.int .i64 q.op, .int .i64 q.a, .int .i64 q.b, .int .i64 q.k, .slice A' n' c'] t')).2 w.heap.size (by omega)
  rw [hs1] at hh
  rw [(MapKept.heap_alloc w _).1] at hr
  exact ⟨((Below.refl _ _).alloc (Nat.le_refl _) _).alloc (by simp) _, by simp only [World.cell?, hr]; rfl, by simp only [World.cell?, hr]; rfl, by simp only [World.cell?, hr]; rfl, by simp only [World.cell?, hr]; rfl, by simp only [World.cell?, hr]; rfl,
    by simp only [World.cell?, hh]; rfl, by simp only [World.cell?, hh]; rfl, by simp only [World.cell?, hh]; rfl, by simp only [World.cell?, hh]; rfl, by simp only [World.cell?, hh]; rfl⟩
section
variable (A A' : Option Addr) (n n' c c' : Nat) (p q : Ins) (w : World)
set_option maxHeartbeats 1000000 in
set_option maxRecDepth 100000 in
theorem same_no0 (e0 : (p.op == q.op) = false) :
    Calls Try.prog 23 #[.agg #[.int .i64 p.op, .int .i64 p.a, .int .i64 p.b, .int .i64 p.k, .slice A n c], .agg #[.int .i64 q.op, .int .i64 q.a, .int .i64 q.b, .int .i64 q.k, .slice A' n' c']] w (Tells w false) := by
  have HT := Lib.hid (ten_of w p q A A' n n' c c' 25 25)
  generalize hB : w.heap.size + 1 = h at HT
  go_enter Try.func23, Try.ntmps23
  go_upto_region 1 with fail
  simp only [hB] at *
  generalize (w.alloc _).alloc _ = W at *
  obtain ⟨hb, x0, x1, x2, x3, x4, y0, y1, y2, y3, y4⟩ := HT.out
  go_wp2
  go_ret
  exact ⟨rfl, hb⟩
set_option maxHeartbeats 1000000 in
set_option maxRecDepth 100000 in
theorem same_no1 (e0 : (p.op == q.op) = true) (e1 : (p.a == q.a) = false) :
    Calls Try.prog 23 #[.agg #[.int .i64 p.op, .int .i64 p.a, .int .i64 p.b, .int .i64 p.k, .slice A n c], .agg #[.int .i64 q.op, .int .i64 q.a, .int .i64 q.b, .int .i64 q.k, .slice A' n' c']] w (Tells w false) := by
  have HT := Lib.hid (ten_of w p q A A' n n' c c' 25 25)
  generalize hB : w.heap.size + 1 = h at HT
  go_enter Try.func23, Try.ntmps23
  go_upto_region 1 with fail
  simp only [hB] at *
  generalize (w.alloc _).alloc _ = W at *
  obtain ⟨hb, x0, x1, x2, x3, x4, y0, y1, y2, y3, y4⟩ := HT.out
  go_wp2
  go_ret
  exact ⟨rfl, hb⟩
set_option maxHeartbeats 1000000 in
set_option maxRecDepth 100000 in
theorem same_no2 (e0 : (p.op == q.op) = true) (e1 : (p.a == q.a) = true) (e2 : (p.b == q.b) = false) :
    Calls Try.prog 23 #[.agg #[.int .i64 p.op, .int .i64 p.a, .int .i64 p.b, .int .i64 p.k, .slice A n c], .agg #[.int .i64 q.op, .int .i64 q.a, .int .i64 q.b, .int .i64 q.k, .slice A' n' c']] w (Tells w false) := by
  have HT := Lib.hid (ten_of w p q A A' n n' c c' 25 25)
  generalize hB : w.heap.size + 1 = h at HT
  go_enter Try.func23, Try.ntmps23
  go_upto_region 1 with fail
  simp only [hB] at *
  generalize (w.alloc _).alloc _ = W at *
  obtain ⟨hb, x0, x1, x2, x3, x4, y0, y1, y2, y3, y4⟩ := HT.out
  go_wp2
  go_ret
  exact ⟨rfl, hb⟩
set_option maxHeartbeats 1000000 in
set_option maxRecDepth 100000 in
theorem same_no3 (e0 : (p.op == q.op) = true) (e1 : (p.a == q.a) = true) (e2 : (p.b == q.b) = true) (e3 : (p.k == q.k) = false) :
    Calls Try.prog 23 #[.agg #[.int .i64 p.op, .int .i64 p.a, .int .i64 p.b, .int .i64 p.k, .slice A n c], .agg #[.int .i64 q.op, .int .i64 q.a, .int .i64 q.b, .int .i64 q.k, .slice A' n' c']] w (Tells w false) := by
  have HT := Lib.hid (ten_of w p q A A' n n' c c' 25 25)
  generalize hB : w.heap.size + 1 = h at HT
  go_enter Try.func23, Try.ntmps23
  go_upto_region 1 with fail
  simp only [hB] at *
  generalize (w.alloc _).alloc _ = W at *
  obtain ⟨hb, x0, x1, x2, x3, x4, y0, y1, y2, y3, y4⟩ := HT.out
  go_wp2
  go_ret
  exact ⟨rfl, hb⟩
set_option maxHeartbeats 1000000 in
set_option maxRecDepth 100000 in
theorem same_ints (e0 : (p.op == q.op) = true) (e1 : (p.a == q.a) = true) (e2 : (p.b == q.b) = true) (e3 : (p.k == q.k) = true) (bb : Bool) (HS : Hid (∀ W, Below w.heap.size w W → Calls Try.prog 41 #[.slice A n c, .slice A' n' c'] W fun e w' => e = .returned (.bool bb) ∧ ∃ m, w' = W.drewN m)) :
    Calls Try.prog 23 #[.agg #[.int .i64 p.op, .int .i64 p.a, .int .i64 p.b, .int .i64 p.k, .slice A n c], .agg #[.int .i64 q.op, .int .i64 q.a, .int .i64 q.b, .int .i64 q.k, .slice A' n' c']] w (Tells w bb) := by
  have HT := Lib.hid (ten_of w p q A A' n n' c c' 25 25)
  generalize hB : w.heap.size + 1 = h at HT
  go_enter Try.func23, Try.ntmps23
  go_upto_region 1 with fail
  simp only [hB] at *
  generalize (w.alloc _).alloc _ = W at *
  obtain ⟨hb, x0, x1, x2, x3, x4, y0, y1, y2, y3, y4⟩ := HT.out
  go_wp2_with fail
  refine (HS.out _ hb).mono ?_
  rintro e w2 ⟨rfl, m, rfl⟩
  go_wp2
  go_ret
  exact ⟨rfl, below_drewN hb m⟩
end
theorem same_any (v v' : Value) (p q : Ins) (w : World) (hv : InsV w v p) (hv' : InsV w v' q) (hl : p.l.length ≤ 140737488355328) (hl' : q.l.length ≤ 140737488355328) :
    Calls Try.prog 23 #[v, v'] w (Tells w (decide (p = q))) := by
  obtain ⟨A, c, rfl, hi, _, _⟩ := hv
  obtain ⟨A', c', rfl, hi', _, _⟩ := hv'
  have neq : ∀ {P : Prop}, P → (p = q → ¬ P) → decide (p = q) = false := fun h1 h2 => decide_eq_false fun h => h2 h h1
  by_cases h0 : p.op = q.op
  · by_cases h1 : p.a = q.a
    · by_cases h2 : p.b = q.b
      · by_cases h3 : p.k = q.k
        · have := same_ints A A' _ _ c c' p q w (by simp [h0]) (by simp [h1]) (by simp [h2]) (by simp [h3]) _ (Lib.hid fun W hW => sameInts_any A A' p.l q.l c c' _ _ W (hi.below hW) (hi'.below hW) hl hl')
          have he : decide (p.l = q.l) = decide (p = q) := by
            apply decide_eq_decide.2
            constructor
            · intro h4
              obtain ⟨_, _, _, _, _⟩ := p
              obtain ⟨_, _, _, _, _⟩ := q
              simp only at h0 h1 h2 h3 h4
              subst h0 h1 h2 h3 h4
              rfl
            · intro h; rw [h]
          rw [he] at this
          exact this
        · rw [decide_eq_false (fun h => h3 (by rw [h]))]
          exact same_no3 A A' _ _ c c' p q w (by simp [h0]) (by simp [h1]) (by simp [h2]) (by simp [h3])
      · rw [decide_eq_false (fun h => h2 (by rw [h]))]
        exact same_no2 A A' _ _ c c' p q w (by simp [h0]) (by simp [h1]) (by simp [h2])
    · rw [decide_eq_false (fun h => h1 (by rw [h]))]
      exact same_no1 A A' _ _ c c' p q w (by simp [h0]) (by simp [h1])
  · rw [decide_eq_false (fun h => h0 (by rw [h]))]
    exact same_no0 A A' _ _ c c' p q w (by simp [h0])
/-- An instruction's five cells. -/
def Five (W : World) (b off : Nat) (op a bb k : Int) (A : Option Addr) (n c : Nat) : Prop :=
  W.cell? ⟨b, off, none⟩ = some (.int .i64 op) ∧ W.cell? ⟨b, off + 1, none⟩ = some (.int .i64 a) ∧ W.cell? ⟨b, off + 2, none⟩ = some (.int .i64 bb) ∧ W.cell? ⟨b, off + 3, none⟩ = some (.int .i64 k) ∧ W.cell? ⟨b, off + 4, none⟩ = some (.slice A n c)
theorem InsAt.five {w : World} {B b off : Nat} {x : Ins} (h : InsAt w B b off x) : ∃ A c, Five w b off x.op x.a x.b x.k A x.l.length c ∧ Ints w B A x.l ∧ x.l.length ≤ c ∧ (A = none → c = 0) := by
  obtain ⟨A, c, h1, h2, h3, h4, h5, h6, h7, h8⟩ := h
  exact ⟨A, c, ⟨h1, h2, h3, h4, h5⟩, h6, h7, h8⟩
theorem take_nextX {l l' : List Ins} {k : Nat} (h : k < l.length) (h' : k < l'.length) (ht : l.take k = l'.take k) (he : l[k] = l'[k]) : l.take (k + 1) = l'.take (k + 1) := by
  rw [List.take_succ_eq_append_getElem h, List.take_succ_eq_append_getElem h', ht, he]
set_option maxHeartbeats 1000000 in
set_option maxRecDepth 100000 in
theorem sameAll_any (A A' : Option Addr) (l l' : List Ins) (c c' : Nat) (w : World) (hb : Inss w w.heap.size A l) (hb' : Inss w w.heap.size A' l') (hlen : l.length ≤ 100000) (hlen' : l'.length ≤ 100000) (hs : ∀ x ∈ l, x.l.length ≤ 100000) (hs' : ∀ x ∈ l', x.l.length ≤ 100000) :
    Calls Try.prog 21 #[.slice A l.length c, .slice A' l'.length c'] w (Tells w (decide (l = l'))) := by
  by_cases hll : l.length = l'.length
  · have hne : ((l.length : Int) != (l'.length : Int)) = false := by simp; omega
    have HLL := Lib.hid hll
    clear hll
    go_enter Try.func21, Try.ntmps21
    go_wp2
    go_loopw [5] (fun i wr => ∃ k : Nat, k ≤ l.length ∧ i = .int .i64 (k : Int) ∧ Hid (l.take k = l'.take k) ∧ Below w.heap.size w wr) (fun i _ => l.length - (intOf i).toNat)
    case atStart => exact ⟨0, Nat.zero_le _, rfl, Lib.hid rfl, Below.refl _ _⟩
    case round =>
      obtain ⟨j, hj, rfl, ht, hbel⟩ := hrel
      by_cases hl : j < l.length
      · have hl' : j < l'.length := by have := HLL.out; omega
        obtain ⟨b, off, rfl, hbb, hcs⟩ := (hb.below hbel) (by omega)
        obtain ⟨b', off', rfl, hbb', hcs'⟩ := (hb'.below hbel) (by omega)
        obtain ⟨A1, c1, hf1, hi1, hr1, hn1⟩ := (hcs j hl).five
        obtain ⟨A2, c2, hf2, hi2, hr2, hn2⟩ := (hcs' j hl').five
        have hx1 := hs _ (List.getElem_mem hl)
        have hx2 := hs' _ (List.getElem_mem hl')
        have hli : (j : Int) < (l.length : Int) := by omega
        have hli' : (j : Int) < (l'.length : Int) := by omega
        have hsz := hbel.size
        have HNX : Hid (l[j] = l'[j] → l.take (j + 1) = l'.take (j + 1)) := Lib.hid fun h => take_nextX hl hl' ht.out h
        have HNO : Hid (l[j] ≠ l'[j] → decide (l = l') = false) := Lib.hid fun h => decide_eq_false fun e => h (by subst e; rfl)
        generalize l[j] = p at *
        generalize l'[j] = q at *
        have HC : Hid (∀ W, Below w.heap.size w W → Calls Try.prog 23 #[.agg #[.int .i64 p.op, .int .i64 p.a, .int .i64 p.b, .int .i64 p.k, .slice A1 p.l.length c1], .agg #[.int .i64 q.op, .int .i64 q.a, .int .i64 q.b, .int .i64 q.k, .slice A2 q.l.length c2]] W (Tells W (decide (p = q)))) := Lib.hid fun W hW => by
          have g1 : Ints W W.heap.size A1 p.l := by
            intro h; obtain ⟨x, y, e, h1, h2⟩ := hi1 h; exact ⟨x, y, e, Nat.lt_of_lt_of_le h1 hW.size, fun i hi => (hW.cell h1).trans ((hbel.cell h1).symm.trans (h2 i hi))⟩
          have g2 : Ints W W.heap.size A2 q.l := by
            intro h; obtain ⟨x, y, e, h1, h2⟩ := hi2 h; exact ⟨x, y, e, Nat.lt_of_lt_of_le h1 hW.size, fun i hi => (hW.cell h1).trans ((hbel.cell h1).symm.trans (h2 i hi))⟩
          exact same_any _ _ p q W ⟨A1, c1, rfl, g1, hr1, hn1⟩ ⟨A2, c2, rfl, g2, hr2, hn2⟩ (by omega) (by omega)
        obtain ⟨u0, u1, u2, u3, u4⟩ := hf1
        obtain ⟨v0, v1, v2, v3, v4⟩ := hf2
        have hbw : b < wr.heap.size := Nat.lt_of_lt_of_le hbb hsz
        have hbw' : b' < wr.heap.size := Nat.lt_of_lt_of_le hbb' hsz
        generalize p.l.length = n1 at *
        generalize q.l.length = n2 at *
        clear hcs hcs' hi1 hi2 hr1 hr2 hn1 hn2 hx1 hx2 ht hbb hbb'
        go_wp2_with fail
        refine wp_region_held_drew (S := fun V => V.cell? ⟨b, off + j * 5, none⟩ = some (.int .i64 p.op) ∧ V.cell? ⟨b, off + j * 5 + 1, none⟩ = some (.int .i64 p.a) ∧ V.cell? ⟨b, off + j * 5 + 2, none⟩ = some (.int .i64 p.b) ∧ V.cell? ⟨b, off + j * 5 + 3, none⟩ = some (.int .i64 p.k) ∧ V.cell? ⟨b, off + j * 5 + 4, none⟩ = some (.slice A1 n1 c1) ∧ V.cell? ⟨b', off' + j * 5, none⟩ = some (.int .i64 q.op) ∧ V.cell? ⟨b', off' + j * 5 + 1, none⟩ = some (.int .i64 q.a) ∧ V.cell? ⟨b', off' + j * 5 + 2, none⟩ = some (.int .i64 q.b) ∧ V.cell? ⟨b', off' + j * 5 + 3, none⟩ = some (.int .i64 q.k) ∧ V.cell? ⟨b', off' + j * 5 + 4, none⟩ = some (.slice A2 n2 c2)) (by kernel_rfl) ⟨u0, u1, u2, u3, u4, v0, v1, v2, v3, v4⟩ (fun hS => ?_)
        have hbel1 : Below w.heap.size w wr.drew := hbel.drew
        have hbw1 : b < wr.drew.heap.size := hbw
        have hbw1' : b' < wr.drew.heap.size := hbw'
        clear u0 u1 u2 u3 u4 v0 v1 v2 v3 v4 hbel hsz hbw hbw'
        generalize wr.drew = V at *
        refine wpAnyH_take (i := 0) (oi := { dst := some 17, op := .move (.tmp 0), type := 26, pos := "ref.go:211", after := #[], guard := none }) (v := ?_) rfl (by kernel_rfl) (by kernel_rfl) (by kernel_rfl) (fun _ _ _ h => h) (Or.inl ⟨by rfl, ?_⟩) hS ?_
        rotate_left
        · (intro w' hS'; obtain ⟨s0, s1, s2, s3, s4, t0, t1, t2, t3, t4⟩ := hS'; go_simp) <;> with_reducible rfl
        try simp only [Act.put, List.setIfInBounds_toArray, List.set_cons_zero, List.set_cons_succ]
        refine wpAnyH_take (i := 1) (oi := { dst := some 18, op := .move (.tmp 5), type := 3, pos := "ref.go:211", after := #[], guard := none }) (v := ?_) rfl (by kernel_rfl) (by kernel_rfl) (by kernel_rfl) (fun _ _ _ h => h) (Or.inl ⟨by rfl, ?_⟩) hS ?_
        rotate_left
        · (intro w' hS'; obtain ⟨s0, s1, s2, s3, s4, t0, t1, t2, t3, t4⟩ := hS'; go_simp) <;> with_reducible rfl
        try simp only [Act.put, List.setIfInBounds_toArray, List.set_cons_zero, List.set_cons_succ]
        refine wpAnyH_take (i := 2) (oi := { dst := some 19, op := .indexAddr 26 (.tmp 17) (.tmp 18), type := 0, pos := "ref.go:211", after := #[{ on := 0, ground := .data }, { on := 1, ground := .data }], guard := none }) (v := ?_) rfl (by kernel_rfl) (by kernel_rfl) (by kernel_rfl) (fun _ _ _ h => h) (Or.inl ⟨by rfl, ?_⟩) hS ?_
        rotate_left
        · (intro w' hS'; obtain ⟨s0, s1, s2, s3, s4, t0, t1, t2, t3, t4⟩ := hS'; go_simp) <;> with_reducible rfl
        try simp only [Act.put, List.setIfInBounds_toArray, List.set_cons_zero, List.set_cons_succ]
        refine wpAnyH_take (i := 3) (oi := { dst := some 20, op := .load 25 (.tmp 19), type := 25, pos := "ref.go:211", after := #[{ on := 2, ground := .data }], guard := none }) (v := ?_) rfl (by kernel_rfl) (by kernel_rfl) (by kernel_rfl) (fun _ _ _ h => h) (Or.inl ⟨by rfl, ?_⟩) hS ?_
        rotate_left
        · (intro w' hS'; obtain ⟨s0, s1, s2, s3, s4, t0, t1, t2, t3, t4⟩ := hS'; go_simp) <;> with_reducible rfl
        try simp only [Act.put, List.setIfInBounds_toArray, List.set_cons_zero, List.set_cons_succ]
        refine wpAnyH_take (i := 4) (oi := { dst := some 21, op := .move (.tmp 1), type := 26, pos := "ref.go:211", after := #[], guard := none }) (v := ?_) rfl (by kernel_rfl) (by kernel_rfl) (by kernel_rfl) (fun _ _ _ h => h) (Or.inl ⟨by rfl, ?_⟩) hS ?_
        rotate_left
        · (intro w' hS'; obtain ⟨s0, s1, s2, s3, s4, t0, t1, t2, t3, t4⟩ := hS'; go_simp) <;> with_reducible rfl
        try simp only [Act.put, List.setIfInBounds_toArray, List.set_cons_zero, List.set_cons_succ]
        refine wpAnyH_take (i := 5) (oi := { dst := some 22, op := .move (.tmp 5), type := 3, pos := "ref.go:211", after := #[], guard := none }) (v := ?_) rfl (by kernel_rfl) (by kernel_rfl) (by kernel_rfl) (fun _ _ _ h => h) (Or.inl ⟨by rfl, ?_⟩) hS ?_
        rotate_left
        · (intro w' hS'; obtain ⟨s0, s1, s2, s3, s4, t0, t1, t2, t3, t4⟩ := hS'; go_simp) <;> with_reducible rfl
        try simp only [Act.put, List.setIfInBounds_toArray, List.set_cons_zero, List.set_cons_succ]
        refine wpAnyH_take (i := 6) (oi := { dst := some 23, op := .indexAddr 26 (.tmp 21) (.tmp 22), type := 0, pos := "ref.go:211", after := #[{ on := 4, ground := .data }, { on := 5, ground := .data }], guard := none }) (v := ?_) rfl (by kernel_rfl) (by kernel_rfl) (by kernel_rfl) (fun _ _ _ h => h) (Or.inl ⟨by rfl, ?_⟩) hS ?_
        rotate_left
        · (intro w' hS'; obtain ⟨s0, s1, s2, s3, s4, t0, t1, t2, t3, t4⟩ := hS'; go_simp) <;> with_reducible rfl
        try simp only [Act.put, List.setIfInBounds_toArray, List.set_cons_zero, List.set_cons_succ]
        refine wpAnyH_take (i := 7) (oi := { dst := some 24, op := .load 25 (.tmp 23), type := 25, pos := "ref.go:211", after := #[{ on := 6, ground := .data }], guard := none }) (v := ?_) rfl (by kernel_rfl) (by kernel_rfl) (by kernel_rfl) (fun _ _ _ h => h) (Or.inl ⟨by rfl, ?_⟩) hS ?_
        rotate_left
        · (intro w' hS'; obtain ⟨s0, s1, s2, s3, s4, t0, t1, t2, t3, t4⟩ := hS'; go_simp) <;> with_reducible rfl
        try simp only [Act.put, List.setIfInBounds_toArray, List.set_cons_zero, List.set_cons_succ]
        refine wpAnyH_ready (rs := [8]) (by kernel_rfl) (by simp) ?_
        refine AllReadyH.cons (o := { dst := some 25, op := .call { callee := .value (.func 23), args := #[.tmp 20, .tmp 24], argTypes := #[25, 25] }, type := 4, pos := "ref.go:211", after := #[{ on := 3, ground := .data }, { on := 7, ground := .data }], guard := none }) rfl (fun K hK => ?_) AllReadyH.nil
        go_simp
        refine (HC.out _ hbel1).mono ?_
        rintro e w3 ⟨rfl, hb3⟩
        have hbel3 := hbel1.trans (hb3.mono hbel1.size)
        have hS3 : (w3.cell? ⟨b, off + j * 5, none⟩ = some (.int .i64 p.op) ∧ w3.cell? ⟨b, off + j * 5 + 1, none⟩ = some (.int .i64 p.a) ∧ w3.cell? ⟨b, off + j * 5 + 2, none⟩ = some (.int .i64 p.b) ∧ w3.cell? ⟨b, off + j * 5 + 3, none⟩ = some (.int .i64 p.k) ∧ w3.cell? ⟨b, off + j * 5 + 4, none⟩ = some (.slice A1 n1 c1) ∧ w3.cell? ⟨b', off' + j * 5, none⟩ = some (.int .i64 q.op) ∧ w3.cell? ⟨b', off' + j * 5 + 1, none⟩ = some (.int .i64 q.a) ∧ w3.cell? ⟨b', off' + j * 5 + 2, none⟩ = some (.int .i64 q.b) ∧ w3.cell? ⟨b', off' + j * 5 + 3, none⟩ = some (.int .i64 q.k) ∧ w3.cell? ⟨b', off' + j * 5 + 4, none⟩ = some (.slice A2 n2 c2)) := by
          obtain ⟨s0, s1, s2, s3, s4, t0, t1, t2, t3, t4⟩ := hS
          exact ⟨(hb3.cell hbw1).trans s0, (hb3.cell hbw1).trans s1, (hb3.cell hbw1).trans s2, (hb3.cell hbw1).trans s3, (hb3.cell hbw1).trans s4, (hb3.cell hbw1').trans t0, (hb3.cell hbw1').trans t1, (hb3.cell hbw1').trans t2, (hb3.cell hbw1').trans t3, (hb3.cell hbw1').trans t4⟩
        clear hS hb3 HC
        have hS := hS3
        clear hS3
        go_wp2_with fail
        refine hK.out _ _ hS (fun _ => ?_)
        clear hK K
        try simp only [Act.put, List.setIfInBounds_toArray, List.set_cons_zero, List.set_cons_succ]
        by_cases hpq : p = q
        · have HD : decide (p = q) = true := decide_eq_true hpq
          have HN2 := Lib.hid (HNX.out hpq)
          rw [HD]
          clear hpq HD HNX HNO
          refine wpAnyH_take (i := 9) (oi := { dst := some 26, op := .unOp .not 4 (.tmp 25), type := 4, pos := "ref.go:211", after := #[{ on := 8, ground := .data }], guard := none }) (v := ?_) rfl (by kernel_rfl) (by kernel_rfl) (by kernel_rfl) (fun _ _ _ h => h) (Or.inl ⟨by rfl, ?_⟩) hS ?_
          rotate_left
          · (intro w' hS'; obtain ⟨s0, s1, s2, s3, s4, t0, t1, t2, t3, t4⟩ := hS'; go_simp) <;> with_reducible rfl
          try simp only [Act.put, List.setIfInBounds_toArray, List.set_cons_zero, List.set_cons_succ]
          refine wpAnyH_done (by kernel_rfl) ?_ _
          clear hS
          go_wp2
          go_roundw
          case rel => exact ⟨j + 1, by omega, by go_num, HN2, hbel3⟩
          case measure => simp [intOf]; omega
        · have HD : decide (p = q) = false := decide_eq_false hpq
          have HN2 := Lib.hid (HNO.out hpq)
          rw [HD]
          clear hpq HD HNX HNO
          refine wpAnyH_take (i := 9) (oi := { dst := some 26, op := .unOp .not 4 (.tmp 25), type := 4, pos := "ref.go:211", after := #[{ on := 8, ground := .data }], guard := none }) (v := ?_) rfl (by kernel_rfl) (by kernel_rfl) (by kernel_rfl) (fun _ _ _ h => h) (Or.inl ⟨by rfl, ?_⟩) hS ?_
          rotate_left
          · (intro w' hS'; obtain ⟨s0, s1, s2, s3, s4, t0, t1, t2, t3, t4⟩ := hS'; go_simp) <;> with_reducible rfl
          try simp only [Act.put, List.setIfInBounds_toArray, List.set_cons_zero, List.set_cons_succ]
          refine wpAnyH_done (by kernel_rfl) ?_ _
          clear hS
          go_wp2
          go_ret
          rw [HN2.out]
          exact ⟨rfl, hbel3⟩
      · have hli : ¬ (j : Int) < (l.length : Int) := by omega
        have HE : Hid (decide (l = l') = true) := Lib.hid (by
          have h1 := ht.out
          have h2 := HLL.out
          rw [List.take_of_length_le (by omega), List.take_of_length_le (by omega)] at h1
          exact decide_eq_true h1)
        clear hb hb' ht
        go_wp2
        go_ret
        rw [HE.out]
        exact ⟨rfl, hbel⟩
  · have hne : ((l.length : Int) != (l'.length : Int)) = true := by simp; omega
    have HE : Hid (decide (l = l') = false) := Lib.hid (decide_eq_false fun h => hll (by rw [h]))
    clear hll hb hb'
    go_enter Try.func21, Try.ntmps21
    go_wp2
    go_ret
    rw [HE.out]
    exact ⟨rfl, Below.refl _ _⟩
end Go.Proofs.Ytdipgokbfjbgfaa.Ins
namespace Go.Proofs.Ytdipgokbfjbgfaa.Ins
open Go.RowKit Leb Typ

def sumL (xs : List Ins) : Nat := (xs.map fun x => x.l.length).sum
def lens (xs : List Ins) : Prop := xs.length ≤ 2100 ∧ ∀ x ∈ xs, x.l.length ≤ 100
instance (xs : List Ins) : Decidable (lens xs) := by unfold lens; infer_instance
/-- What Short answers. -/
def shortB (xs : List Ins) : Bool := decide (lens xs ∧ sumL xs ≤ 2000)
theorem shortB_lens (xs : List Ins) (h : shortB xs = true) : lens xs := (of_decide_eq_true h).1
theorem sumL_next (xs : List Ins) (j : Nat) (h : j < xs.length) : sumL (xs.take (j + 1)) = sumL (xs.take j) + xs[j].l.length := by
  unfold sumL
  rw [List.take_succ_eq_append_getElem h, List.map_append, List.sum_append]
  simp
set_option maxHeartbeats 1000000 in
set_option maxRecDepth 100000 in
theorem short_any (A : Option Addr) (xs : List Ins) (c B : Nat) (w : World) (hb : Inss w B A xs) :
    Calls Try.prog 9 #[.slice A xs.length c] w (Same1 w (.bool (shortB xs))) := by
  by_cases hbig : xs.length ≤ 2100
  · have hbi : ¬ (2100 : Int) < (xs.length : Int) := by omega
    go_enter Try.func9, Try.ntmps9
    go_wp2
    go_loop [3, 4] (fun n i => ∃ j s : Nat, j ≤ xs.length ∧ s ≤ 100 * j ∧ n = .int .i64 (s : Int) ∧ i = .int .i64 (j : Int) ∧ Hid (∀ x ∈ xs.take j, x.l.length ≤ 100) ∧ Hid (s = sumL (xs.take j))) (fun _ i => xs.length - (intOf i).toNat)
    case atStart => exact ⟨0, 0, Nat.zero_le _, by omega, rfl, rfl, Lib.hid (by simp), Lib.hid rfl⟩
    case round =>
      obtain ⟨j, s, hj, hs, rfl, rfl, HK, HSM⟩ := hrel
      by_cases hlt : j < xs.length
      · have hlti : (j : Int) < (xs.length : Int) := by omega
        obtain ⟨b, off, rfl, _, hcs⟩ := hb (by omega)
        obtain ⟨A1, c1, hf1, _, _, _⟩ := (hcs j hlt).five
        obtain ⟨_, _, _, _, u4⟩ := hf1
        have HN : Hid (xs[j].l.length ≤ 100 → ∀ x ∈ xs.take (j + 1), x.l.length ≤ 100) := Lib.hid fun h x hx => by
          rw [List.take_succ_eq_append_getElem hlt] at hx
          rcases List.mem_append.1 hx with hx | hx
          · exact HK.out x hx
          · have : x = xs[j] := by simpa using hx
            rw [this]; exact h
        have HM2 : Hid (s + xs[j].l.length = sumL (xs.take (j + 1))) := Lib.hid (by rw [sumL_next xs j hlt, HSM.out])
        have HNO : Hid (¬ xs[j].l.length ≤ 100 → shortB xs = false) := Lib.hid fun h => decide_eq_false fun h2 => h (h2.1.2 _ (List.getElem_mem hlt))
        clear hcs hb HK HSM
        generalize xs[j].l.length = n at *
        by_cases hn : n ≤ 100
        · have hni : ¬ (100 : Int) < (n : Int) := by omega
          have HN2 := Lib.hid (HN.out hn)
          go_wp2
          go_round
          case rel => exact ⟨j + 1, s + n, by omega, by omega, by go_num, by go_num, HN2, HM2⟩
          case measure => simp [intOf]; omega
        · have hni : (100 : Int) < (n : Int) := by omega
          have HE := Lib.hid (HNO.out hn)
          go_wp2
          go_ret
          rw [HE.out]
          exact ⟨rfl, rfl⟩
      · have hlti : ¬ (j : Int) < (xs.length : Int) := by omega
        have HE : Hid (shortB xs = decide ((s : Int) ≤ 2000)) := Lib.hid (by
          have h1 := HSM.out
          have h2 := HK.out
          rw [List.take_of_length_le (by omega)] at h1 h2
          unfold shortB
          apply decide_eq_decide.2
          rw [← h1]
          constructor
          · intro h; omega
          · intro h; exact ⟨⟨hbig, h2⟩, by omega⟩)
        clear HK hb HSM
        go_wp2
        go_ret
        rw [HE.out]
        exact ⟨rfl, rfl⟩
  · have hbi : (2100 : Int) < (xs.length : Int) := by omega
    have HE : Hid (shortB xs = false) := Lib.hid (decide_eq_false fun h => hbig h.1.1)
    clear hb hbig
    go_enter Try.func9, Try.ntmps9
    go_wp2
    go_ret
    rw [HE.out]
    exact ⟨rfl, rfl⟩
end Go.Proofs.Ytdipgokbfjbgfaa.Ins
namespace Go.Proofs.Ytdipgokbfjbgfaa.Ins
open Go.RowKit Leb Typ

section
variable (A1 A2 A4 : Option Addr) (nl c1 n2 c2 len c4 m : Nat) (op a b k : Int) (w : World) (ls : List Int) (xs : List Ins) (lm : List Nat)
  (hm : min (len : Int) 1000 = (m : Int)) (hmc : m ≤ c4) (hm3 : m ≤ 1000) (hlm : lm.length = m) (hslc : Slc w A4 c4 lm) (hnl : ls.length = nl) (hn2 : xs.length = n2)
  (hv : InsV w (.agg #[.int .i64 op, .int .i64 a, .int .i64 b, .int .i64 k, .slice A1 nl c1]) ⟨op, a, b, k, ls⟩) (hsli : Sli w A2 c2 xs)
  (HA : Hid (∀ W, Below w.heap.size w W → Calls Try.prog 8 #[] W fun e w' => e = .returned (.bool true) ∧ Below W.heap.size W w'))
include hm hmc hm3 HA
set_option maxHeartbeats 4000000 in
set_option maxRecDepth 100000 in
theorem back_no1 (HS : Hid (∀ W, Below w.heap.size w W → Calls Try.prog 9 #[.slice A2 n2 c2] W (Same1 W (.bool false)))) :
    Calls Try.prog 4 #[.agg #[.int .i64 op, .int .i64 a, .int .i64 b, .int .i64 k, .slice A1 nl c1], .slice A2 n2 c2, .slice A4 len c4] w fun e w' => e = .returned (.bool true) ∧ Below w.heap.size w w' := by
  have HX := Lib.hid (b5_of (Below.refl w.heap.size w) op a b k A1 nl c1 25)
  go_enter Try.func4, Try.ntmps4
  go_upto_region 3 with (go_at_call 8; refine (HA.out _ HX.out.below).mono ?_; rintro e w1 ⟨rfl, hb1⟩)
  have HX1 := Lib.hid (HX.out.keep hb1)
  clear HX hb1 HA
  go_cut [2] (fun s2 wx => s2 = .slice A4 m c4 ∧ wx = w1)
  case first =>
    by_cases hs : (len : Int) ≤ 1000
    · obtain rfl : len = m := by omega
      go_wp2
      go_meet
      exact ⟨rfl, rfl⟩
    · obtain rfl : m = 1000 := by omega
      have hc3 : (1000 : Int) ≤ (c4 : Int) := by omega
      go_wp2
      go_meet
      exact ⟨rfl, rfl⟩
  case rest =>
    obtain ⟨rfl, rfl⟩ := hcut
    clear hm
    go_wp2_with fail
    refine (HS.out _ HX1.out.below).mono ?_
    rintro e w2 ⟨rfl, rfl⟩
    have hb2 := HX1.out.below
    clear HX1 HS
    go_wp2
    go_ret
    exact ⟨rfl, hb2⟩
variable (HS : Hid (∀ W, Below w.heap.size w W → Calls Try.prog 9 #[.slice A2 n2 c2] W (Same1 W (.bool true))))
include HS
set_option maxHeartbeats 4000000 in
set_option maxRecDepth 100000 in
theorem back_no2 (hbig : (100 : Int) < (nl : Int)) :
    Calls Try.prog 4 #[.agg #[.int .i64 op, .int .i64 a, .int .i64 b, .int .i64 k, .slice A1 nl c1], .slice A2 n2 c2, .slice A4 len c4] w fun e w' => e = .returned (.bool true) ∧ Below w.heap.size w w' := by
  have HX := Lib.hid (b5_of (Below.refl w.heap.size w) op a b k A1 nl c1 25)
  go_enter Try.func4, Try.ntmps4
  go_upto_region 3 with (go_at_call 8; refine (HA.out _ HX.out.below).mono ?_; rintro e w1 ⟨rfl, hb1⟩)
  have HX1 := Lib.hid (HX.out.keep hb1)
  clear HX hb1 HA
  go_cut [2] (fun s2 wx => s2 = .slice A4 m c4 ∧ wx = w1)
  case first =>
    by_cases hs : (len : Int) ≤ 1000
    · obtain rfl : len = m := by omega
      go_wp2
      go_meet
      exact ⟨rfl, rfl⟩
    · obtain rfl : m = 1000 := by omega
      have hc3 : (1000 : Int) ≤ (c4 : Int) := by omega
      go_wp2
      go_meet
      exact ⟨rfl, rfl⟩
  case rest =>
    obtain ⟨rfl, rfl⟩ := hcut
    clear hm
    go_wp2_with fail
    refine (HS.out _ HX1.out.below).mono ?_
    rintro e w2 ⟨rfl, rfl⟩
    have hb2 := HX1.out.below
    have q4 := HX1.out.c4
    clear HX1 HS
    go_wp2
    go_ret
    exact ⟨rfl, hb2⟩
variable (hsmall : ¬ (100 : Int) < (nl : Int)) (pb qb : List Nat) (kp e1 kq e2 : Nat)
  (hkp : pb.length = kp) (hkp' : kp ≤ 5000000) (hpb : ∀ x ∈ pb, x < 256) (he1 : e1 = 0 ∨ e1 = 2)
  (hkq : qb.length = kq) (hkq' : kq ≤ 5000000) (hqb : ∀ x ∈ qb, x < 256) (he2 : e2 = 0 ∧ n2 ≤ 2100 ∧ (∀ x ∈ xs, x.l.length ≤ 100) ∨ e2 = 2 ∧ kq = 0)
  (HP : Hid (∀ W v, Below w.heap.size w W → InsV W v ⟨op, a, b, k, ls⟩ → Calls Try.prog 11 #[.slice none 0 0, v] W (PutIs W pb kp e1)))
  (HO : Hid (e1 = 0 → ∀ W A c, Below w.heap.size w W → Slc W A c (pb ++ lm) → Calls Try.prog 22 #[.slice A (kp + m) c] W (One3 W (⟨op, a, b, k, ls⟩, kp, 0))))
  (HPB : Hid (∀ W, Below w.heap.size w W → Calls Try.prog 17 #[.slice none 0 0, .slice A2 n2 c2] W (PutIs W qb kq e2)))
  (HB : Hid (e2 = 0 → ∀ W A c, Below w.heap.size w W → Slc W A c (qb ++ lm) → Calls Try.prog 24 #[.slice A (kq + m) c] W (Body3 W (xs, kq, 0))))
include hlm hslc hnl hn2 hv hsli hsmall hkp hkp' hpb he1 hkq hkq' hqb he2 HP HO HPB HB
set_option maxHeartbeats 4000000 in
set_option maxRecDepth 100000 in
theorem back_walk :
    Calls Try.prog 4 #[.agg #[.int .i64 op, .int .i64 a, .int .i64 b, .int .i64 k, .slice A1 nl c1], .slice A2 n2 c2, .slice A4 len c4] w fun e w' => e = .returned (.bool true) ∧ Below w.heap.size w w' := by
  have HX := Lib.hid (b5_of (Below.refl w.heap.size w) op a b k A1 nl c1 25)
  have HNL := Lib.hid hnl
  have HN2 := Lib.hid hn2
  have HLM := Lib.hid hlm
  have HSL := Lib.hid hslc
  have HV := Lib.hid hv
  have HSI := Lib.hid hsli
  have HKP := Lib.hid hkp
  have HKQ := Lib.hid hkq
  have HPBY := Lib.hid hpb
  have HQBY := Lib.hid hqb
  have HE1 := Lib.hid he1
  have HE2 := Lib.hid he2
  clear hnl hn2 hlm hslc hv hsli hkp hkq hpb hqb he1 he2
  go_enter Try.func4, Try.ntmps4
  go_upto_region 3 with (go_at_call 8; refine (HA.out _ HX.out.below).mono ?_; rintro e w1 ⟨rfl, hb1⟩)
  have HX1 := Lib.hid (HX.out.keep hb1)
  clear HX hb1 HA
  go_cut [2] (fun s2 wx => s2 = .slice A4 m c4 ∧ wx = w1)
  case first =>
    by_cases hs : (len : Int) ≤ 1000
    · obtain rfl : len = m := by omega
      go_wp2
      go_meet
      exact ⟨rfl, rfl⟩
    · obtain rfl : m = 1000 := by omega
      have hc3 : (1000 : Int) ≤ (c4 : Int) := by omega
      go_wp2
      go_meet
      exact ⟨rfl, rfl⟩
  case rest =>
    obtain ⟨rfl, rfl⟩ := hcut
    clear hm
    go_wp2_with fail
    refine (HS.out _ HX1.out.below).mono ?_
    rintro e w2 ⟨rfl, rfl⟩
    clear HS
    obtain ⟨_, _, q0, q1, q2, q3, q4⟩ := HX1.out
    go_wp2_with fail
    refine (HP.out _ _ HX1.out.below (HV.out.below HX1.out.below)).mono ?_
    intro e w2 hput
    obtain ⟨Ab, cb, rfl, hown, hBy, hnb, hcb, hb2⟩ := put_get hput
    have HX2 := Lib.hid (HX1.out.keep hb2)
    have HBC := Lib.hid hb2
    clear q0 q1 q2 q3 q4 hb2 hput HP
    go_upto_if 39 with fail
    go_cut [6] (fun s6 wx => s6 = .bool false ∧ Below w.heap.size w wx)
    case first =>
      rcases HE1.out with rfl | rfl
      · have hBm : Bytes w2 w.heap.size A4 lm := HSL.out.bytes.below HX2.out.below
        have hnm := HSL.out.nil
        have hsz := HBC.out.size
        go_wp2_with (at_builtin; refine app_slice rfl (.tmp 41) (.tmp 42) rfl wc.heap.size _ pb rfl hown HPBY.out A4 lm m c4 w.heap.size (kp + m) HLM.out rfl hBm hnm (by rw [List.length_append, HKP.out, HLM.out]) (by omega) hsz ?_; intro A5 c5 w5 hown5 hB5 hc5 hn5 hb5)
        have HX5 := Lib.hid (HX1.out.keep (HBC.out.trans hb5))
        clear hBm hnm hown5 hb5 hown hBy
        refine (HO.out (by trivial) _ _ _ HX5.out.below ⟨hB5, hn5, by rw [List.length_append, HKP.out, HLM.out]; exact hc5⟩).mono ?_
        rintro e w6 ⟨v6, rfl, hv6, hb6⟩
        have hv6' := hv6
        obtain ⟨A6, c6, rfl, _, _, _⟩ := hv6'
        simp only at hv6 ⊢
        rw [HNL.out] at hv6 ⊢
        have HX6 := Lib.hid (HX5.out.keep hb6)
        have hba : Below w6.heap.size w6 (w6.alloc (.cells #[.int .i64 op, .int .i64 a, .int .i64 b, .int .i64 k, .slice A6 nl c6] 25)) := (Below.refl _ _).alloc (Nat.le_refl _) _
        have HX7 := Lib.hid (HX6.out.keep hba)
        have HY7 := Lib.hid (b5_of HX6.out.below op a b k A6 nl c6 25)
        have HV7 := Lib.hid (HV.out.below HX7.out.below)
        have HU7 := Lib.hid (hv6.below hba)
        clear hba hb6 hv6 HX5 HX1 HX2 HBC hB5 HX6
        obtain ⟨_, _, q0, q1, q2, q3, q4⟩ := HX7.out
        obtain ⟨_, _, y0, y1, y2, y3, y4⟩ := HY7.out
        go_wp2_with fail
        generalize w6.alloc _ = w7 at *
        refine (same_any _ _ ⟨op, a, b, k, ls⟩ ⟨op, a, b, k, ls⟩ w7 HV7.out HU7.out (by simp only; have := HNL.out; omega) (by simp only; have := HNL.out; omega)).mono ?_
        rintro e w8 ⟨rfl, hb8⟩
        have hb9 := (HX7.out.keep hb8).below
        clear HX7 HY7 HV7 HU7 hb8 q0 q1 q2 q3 q4 y0 y1 y2 y3 y4
        simp only [decide_true]
        go_wp2
        go_meet
        exact ⟨rfl, hb9⟩
      · have hb9 := HX2.out.below
        clear HX2 HX1 HBC hown hBy
        go_wp2
        go_meet
        exact ⟨rfl, hb9⟩
    case rest =>
      obtain ⟨rfl, hb9⟩ := hcut
      clear HX2 HX1 HBC hown hBy HO HE1
      go_wp2_with fail
      refine (HPB.out _ hb9).mono ?_
      intro e w10 hput
      obtain ⟨Ac, cc, rfl, hown, hBy, hnb, hcb, hb10⟩ := put_get hput
      have hb11 := hb9.trans (hb10.mono hb9.size)
      clear hput HPB
      rcases HE2.out with ⟨rfl, hn21, hll⟩ | ⟨rfl, rfl⟩
      · have hBm : Bytes w10 w.heap.size A4 lm := HSL.out.bytes.below hb11
        have hnm := HSL.out.nil
        have hsz := hb10.size
        have HLL := Lib.hid hll
        clear hll
        go_wp2_with (at_builtin; refine app_slice rfl (.tmp 73) (.tmp 74) rfl wc.heap.size _ qb rfl hown HQBY.out A4 lm m c4 w.heap.size (kq + m) HLM.out rfl hBm hnm (by rw [List.length_append, HKQ.out, HLM.out]) (by omega) hsz ?_; intro A12 c12 w12 hown12 hB12 hc12 hn12 hb12)
        have hb13 := hb9.trans ((hb10.trans hb12).mono hb9.size)
        clear hBm hnm hown12 hb12 hown hBy hb11 hb10
        refine (HB.out (by trivial) _ _ _ hb13 ⟨hB12, hn12, by rw [List.length_append, HKQ.out, HLM.out]; exact hc12⟩).mono ?_
        rintro e w14 ⟨A14, c14, rfl, hs14, hb14⟩
        have hb15 := hb13.trans (hb14.mono hb13.size)
        have HS14 := Lib.hid hs14
        have HS15 := Lib.hid (HSI.out.below hb15)
        simp only
        rw [HN2.out]
        clear hb14 hb13 hs14 hB12 HB
        have hkk : ((kq : Int) == (kq : Int)) = true := by simp
        go_wp2_with fail
        have hsa := sameAll_any A2 A14 xs xs c2 c14 w14 HS15.out.ins HS14.out.ins (by have := HN2.out; omega) (by have := HN2.out; omega) (fun x hx => by have := HLL.out x hx; omega) (fun x hx => by have := HLL.out x hx; omega)
        rw [HN2.out] at hsa
        refine hsa.mono ?_
        rintro e w16 ⟨rfl, hb16⟩
        have hb17 := hb15.trans (hb16.mono hb15.size)
        simp only [decide_true]
        clear hb15 hb16 hsa HS14 HS15
        go_wp2
        go_ret
        exact ⟨rfl, hb17⟩
      · clear HB hown hBy hb10
        go_wp2
        go_ret
        exact ⟨rfl, hb11⟩
end
theorem back_law {T : World → Prop} (D : Does T) (A2 A4 : Option Addr) (c2 c4 : Nat) (v : Value) (x : Ins) (xs : List Ins) (l4 : List Nat) (w : World) (hT : T w) (hv : InsV w v x) (hw : wide x) (hsli : Sli w A2 c2 xs) (hws : ∀ y ∈ xs, wide y) (hs4 : Slc w A4 c4 l4) :
    Calls Try.prog 4 #[v, .slice A2 xs.length c2, .slice A4 l4.length c4] w fun e w' => e = .returned (.bool true) ∧ Below w.heap.size w w' := by
  have HA : Hid (∀ W, Below w.heap.size w W → Calls Try.prog 8 #[] W fun e w' => e = .returned (.bool true) ∧ Below W.heap.size W w') := Lib.hid fun W hW => awake_any D W (D.keep _ _ hT hW)
  obtain ⟨m, hm⟩ : ∃ m, m = min l4.length 1000 := ⟨_, rfl⟩
  have hr := hs4.room
  have hs1 := Slc.cutTo hs4 m
  have hlen : (l4.take m).length = m := by simp; omega
  have HS := Lib.hid (fun W (hW : Below w.heap.size w W) => short_any A2 xs c2 _ W ((hsli.below hW).ins))
  have hv' := hv
  obtain ⟨A1, c1, rfl, _, _, _⟩ := hv'
  obtain ⟨op, a, b, k, ls⟩ := x
  simp only at hv ⊢
  generalize hbb : shortB xs = bb at HS
  cases bb with
  | false => exact back_no1 A1 A2 A4 _ c1 _ c2 l4.length c4 m op a b k w (by omega) (by omega) (by omega) HA HS
  | true =>
    have hln := shortB_lens xs hbb
    by_cases hbig : (100 : Int) < (ls.length : Int)
    · exact back_no2 A1 A2 A4 _ c1 _ c2 l4.length c4 m op a b k w (by omega) (by omega) (by omega) HA HS hbig
    · have hshort : short xs := ⟨hln.1, fun y hy => ⟨hws y hy, hln.2 y hy⟩⟩
      have hP : ∀ W v, Below w.heap.size w W → InsV W v ⟨op, a, b, k, ls⟩ → Calls Try.prog 11 #[.slice none 0 0, v] W (PutIs W (putRes (formedB ⟨op, a, b, k, ls⟩) [] (insBytes ⟨op, a, b, k, ls⟩)).1 _ (putRes (formedB ⟨op, a, b, k, ls⟩) [] (insBytes ⟨op, a, b, k, ls⟩)).2) :=
        fun W v hW hv => D.put none [] 0 _ v _ W (slc_none W) (by simp) hv hw (by simp only; omega) rfl (D.keep _ _ hT hW)
      have hPB : ∀ W, Below w.heap.size w W → Calls Try.prog 17 #[.slice none 0 0, .slice A2 xs.length c2] W (PutIs W (putRes (shutB xs) [] (allBytes xs)).1 _ (putRes (shutB xs) [] (allBytes xs)).2) :=
        fun W hW => D.putBody none A2 [] xs 0 c2 _ W (slc_none W) (by simp) (hsli.below hW) hshort rfl (D.keep _ _ hT hW)
      have h1 : (formedB ⟨op, a, b, k, ls⟩ = true ∧ formedI ⟨op, a, b, k, ls⟩) ∨ formedB ⟨op, a, b, k, ls⟩ = false := by
        cases h : formedB ⟨op, a, b, k, ls⟩ with
        | true => exact .inl ⟨rfl, (formedB_iff _).1 h⟩
        | false => exact .inr rfl
      have h2 : (shutB xs = true ∧ closedI xs) ∨ shutB xs = false := by
        cases h : shutB xs with
        | true => exact .inl ⟨rfl, (shutB_iff _).1 h⟩
        | false => exact .inr rfl
      refine back_walk A1 A2 A4 _ c1 _ c2 l4.length c4 m op a b k w ls xs (l4.take m) (by omega) (by omega) (by omega) hlen hs1 rfl rfl hv hsli HA HS hbig (putRes (formedB ⟨op, a, b, k, ls⟩) [] (insBytes ⟨op, a, b, k, ls⟩)).1 (putRes (shutB xs) [] (allBytes xs)).1 _ _ _ _ rfl ?_ ?_ ?_ rfl ?_ ?_ ?_ (Lib.hid hP) (Lib.hid fun he W A c hW hs => ?_) (Lib.hid hPB) (Lib.hid fun he W A c hW hs => ?_)
      · rcases h1 with ⟨h, hf⟩ | h
        · rw [h]; have := (formed_bytes _ hf).2; simp only [putRes, if_true, List.nil_append]; omega
        · rw [h]; simp [putRes]
      · rcases h1 with ⟨h, hf⟩ | h
        · rw [h]; simpa [putRes] using (formed_bytes _ hf).1
        · rw [h]; simp [putRes]
      · rcases h1 with ⟨h, _⟩ | h
        · rw [h]; exact .inl rfl
        · rw [h]; exact .inr rfl
      · rcases h2 with ⟨h, hf⟩ | h
        · rw [h]; have := (closed_bytes _ hf).2; simp only [putRes, if_true, List.nil_append]; omega
        · rw [h]; simp [putRes]
      · rcases h2 with ⟨h, hf⟩ | h
        · rw [h]; simpa [putRes] using (closed_bytes _ hf).1
        · rw [h]; simp [putRes]
      · rcases h2 with ⟨h, hf⟩ | h
        · rw [h]; exact .inl ⟨rfl, hln.1, hln.2⟩
        · rw [h]; exact .inr ⟨rfl, rfl⟩
      · rcases h1 with ⟨h, hf⟩ | h
        · rw [h] at hs ⊢
          simp only [putRes, if_true, List.nil_append] at hs ⊢
          have hL : (insBytes ⟨op, a, b, k, ls⟩ ++ l4.take m).length = (insBytes ⟨op, a, b, k, ls⟩).length + m := by rw [List.length_append, hlen]
          have := D.one A _ c W hs (by rw [hL]; have := (formed_bytes _ hf).2; omega) (D.keep _ _ hT hW)
          rw [hL, oneRes_put _ _ hf] at this
          exact this
        · rw [h] at he; simp [putRes] at he
      · rcases h2 with ⟨h, hf⟩ | h
        · rw [h] at hs ⊢
          simp only [putRes, if_true, List.nil_append] at hs ⊢
          have hL : (allBytes xs ++ l4.take m).length = (allBytes xs).length + m := by rw [List.length_append, hlen]
          have := D.body A _ c W hs (by rw [hL]; have := (closed_bytes _ hf).2; omega) (D.keep _ _ hT hW)
          rw [hL, bodyRes_put _ _ hf] at this
          exact this
        · rw [h] at he; simp [putRes] at he
end Go.Proofs.Ytdipgokbfjbgfaa.Ins
namespace Go.Proofs.Ytdipgokbfjbgfaa.Ins
open Go.RowKit Leb Typ

theorem OwnX.from {w : World} {base base' : Nat} {v : Value} {es : List Ent} (h : OwnX w base v es) (hb : base' ≤ base) : OwnX w base' v es := by
  refine ⟨h.1, ?_⟩
  rcases h.2 with ⟨rfl, h0⟩ | ⟨g, cap, cur, rfl, h1, h2, h3, h4, h5⟩
  · exact .inl ⟨rfl, h0⟩
  · exact .inr ⟨g, cap, cur, rfl, Nat.le_trans hb h1, h2, h3, h4, h5⟩
theorem RowE.grown {w w' : World} {g off : Nat} {es : List Ent} {x : Option Nat} (h : RowE w w.heap.size (some ⟨g, off, none⟩) es) (hg : w.grownBy w' x) (hx : x ≠ some g) : RowE w' w'.heap.size (some ⟨g, off, none⟩) es := by
  intro hl
  obtain ⟨b, off', e, hb, hc⟩ := h hl
  injection e with e
  injection e with e1 e2 _
  subst e1 e2
  exact ⟨g, off, rfl, Nat.lt_of_lt_of_le hb hg.size, fun j hj i hi => (World.cell?_of_block (hg.block g hb (fun e => hx e.symm))).trans (hc j hj i hi)⟩
def nopE : Ent := ({ zeroIns with op := 1 }, none, 0)
def blkE : Ent := ({ zeroIns with op := 2, a := -64 }, none, 0)
def endE : Ent := ({ zeroIns with op := 11 }, none, 0)
theorem lab_none (w : World) (B : Nat) (x : Ins) (h : x.l = []) : lab w B (x, none, 0) := by
  refine ⟨?_, by simp [h], fun _ => rfl⟩
  simp only [h]
  exact Ints.nil _ _ _
section
variable (A : Option Addr) (n c : Nat) (at' : Int) (w : World) (HA : Hid (Calls Try.prog 8 #[] w fun e w' => e = .returned (.bool true) ∧ Below w.heap.size w w'))
include HA
set_option maxHeartbeats 4000000 in
set_option maxRecDepth 100000 in
theorem nops_no1 (HS : Hid (∀ W, Below w.heap.size w W → Calls Try.prog 9 #[.slice A n c] W (Same1 W (.bool false)))) :
    Calls Try.prog 7 #[.slice A n c, .int .i64 at'] w fun e w' => e = .returned (.bool true) ∧ Below w.heap.size w w' := by
  go_enter Try.func7, Try.ntmps7
  go_upto_region 3 with (go_at_call 8; refine HA.out.mono ?_; rintro e w1 ⟨rfl, hb1⟩)
  clear HA
  go_wp2_with fail
  refine (HS.out _ hb1).mono ?_
  rintro e w2 ⟨rfl, rfl⟩
  clear HS
  go_wp2
  go_ret
  exact ⟨rfl, hb1⟩
variable (HS : Hid (∀ W, Below w.heap.size w W → Calls Try.prog 9 #[.slice A n c] W (Same1 W (.bool true))))
include HS
set_option maxHeartbeats 4000000 in
set_option maxRecDepth 100000 in
theorem nops_no2 (h : (1900 : Int) < (n : Int)) :
    Calls Try.prog 7 #[.slice A n c, .int .i64 at'] w fun e w' => e = .returned (.bool true) ∧ Below w.heap.size w w' := by
  go_enter Try.func7, Try.ntmps7
  go_upto_region 3 with (go_at_call 8; refine HA.out.mono ?_; rintro e w1 ⟨rfl, hb1⟩)
  clear HA
  go_wp2_with fail
  refine (HS.out _ hb1).mono ?_
  rintro e w2 ⟨rfl, rfl⟩
  clear HS
  go_wp2
  go_ret
  exact ⟨rfl, hb1⟩
set_option maxHeartbeats 4000000 in
set_option maxRecDepth 100000 in
theorem nops_no3 (h0 : ¬ (1900 : Int) < (n : Int)) (h : at' < 0) :
    Calls Try.prog 7 #[.slice A n c, .int .i64 at'] w fun e w' => e = .returned (.bool true) ∧ Below w.heap.size w w' := by
  go_enter Try.func7, Try.ntmps7
  go_upto_region 3 with (go_at_call 8; refine HA.out.mono ?_; rintro e w1 ⟨rfl, hb1⟩)
  clear HA
  go_wp2_with fail
  refine (HS.out _ hb1).mono ?_
  rintro e w2 ⟨rfl, rfl⟩
  clear HS
  go_wp2
  go_ret
  exact ⟨rfl, hb1⟩
set_option maxHeartbeats 4000000 in
set_option maxRecDepth 100000 in
theorem nops_no4 (h0 : ¬ (1900 : Int) < (n : Int)) (h1 : ¬ at' < 0) (h : (n : Int) ≤ at') :
    Calls Try.prog 7 #[.slice A n c, .int .i64 at'] w fun e w' => e = .returned (.bool true) ∧ Below w.heap.size w w' := by
  go_enter Try.func7, Try.ntmps7
  go_upto_region 3 with (go_at_call 8; refine HA.out.mono ?_; rintro e w1 ⟨rfl, hb1⟩)
  clear HA
  go_wp2_with fail
  refine (HS.out _ hb1).mono ?_
  rintro e w2 ⟨rfl, rfl⟩
  clear HS
  go_wp2
  go_ret
  exact ⟨rfl, hb1⟩
end
section
variable (b off n c p : Nat) (w : World) (es : List Ent) (hpn : p < n) (hn : n ≤ 1900) (hnc : n ≤ c) (hen : es.length = n) (hrow : RowE w w.heap.size (some ⟨b, off, none⟩) es) (hlab : ∀ e ∈ es, lab w w.heap.size e)
  (HA : Hid (Calls Try.prog 8 #[] w fun e w' => e = .returned (.bool true) ∧ Below w.heap.size w w')) (HS : Hid (∀ W, Below w.heap.size w W → Calls Try.prog 9 #[.slice (some ⟨b, off, none⟩) n c] W (Same1 W (.bool true))))
  (more inn : List Ins) (hmore : (es.take p ++ [nopE] ++ es.drop p).map (fun e => e.1) = more) (hinn : ([blkE] ++ es ++ [endE]).map (fun e => e.1) = inn)
  (qb rb sb : List Nat) (kq kr ks e f g : Nat) (bb : Bool) (hks : kq ≤ 5000000)
  (hef : e = 0 ∧ f = 0 ∧ kr = kq + 1 ∧ (g = 0 ∧ ks = kq + 3 ∨ g = 2) ∨ e = 2 ∧ f = 2)
  (HP1 : Hid (∀ W, Below w.heap.size w W → Calls Try.prog 17 #[.slice none 0 0, .slice (some ⟨b, off, none⟩) n c] W (PutIs W qb kq e)))
  (HP2 : Hid (∀ W A' c', Below w.heap.size w W → Sli W A' c' more → Calls Try.prog 17 #[.slice none 0 0, .slice A' (n + 1) c'] W (PutIs W rb kr f)))
  (HP3 : Hid (∀ W A' c', Below w.heap.size w W → Sli W A' c' inn → Calls Try.prog 17 #[.slice none 0 0, .slice A' (n + 2) c'] W (PutIs W sb ks g)))
  (HC1 : Hid (∀ W, Below w.heap.size w W → Calls Try.prog 19 #[.slice (some ⟨b, off, none⟩) n c] W (Tells W bb)))
  (HC2 : Hid (∀ W A' c', Below w.heap.size w W → Sli W A' c' more → Calls Try.prog 19 #[.slice A' (n + 1) c'] W (Tells W bb)))
include hpn hn hnc hen hrow hlab HA HS hmore hinn hks hef HP1 HP2 HP3 HC1 HC2
set_option maxHeartbeats 4000000 in
set_option maxRecDepth 100000 in
theorem nops_walk :
    Calls Try.prog 7 #[.slice (some ⟨b, off, none⟩) n c, .int .i64 (p : Int)] w fun e w' => e = .returned (.bool true) ∧ Below w.heap.size w w' := by
  have hpi : ¬ (n : Int) ≤ (p : Int) := by omega
  have hni : ¬ (1900 : Int) < (n : Int) := by omega
  have hpc : (p : Int) ≤ (c : Int) := by omega
  have hpn' : (p : Int) ≤ (n : Int) := by omega
  have hpc' : p < c := by omega
  have hcp : ¬ c = p := by omega
  have HEN := Lib.hid hen
  have HROW := Lib.hid hrow
  have HEF := Lib.hid hef
  have HSL : Hid (∀ W A' c', Below w.heap.size w W → RowE W W.heap.size A' (es.take p ++ [nopE] ++ es.drop p) → (A' = none → c' = 0) → n + 1 ≤ c' → Sli W A' c' more) := Lib.hid fun W A' c' hW hr h0 hc' => by
    refine ⟨?_, h0, ?_⟩
    · rw [← hmore]
      refine inss_of hr fun e he => ?_
      have key : e = nopE ∨ e ∈ es := by
        rcases List.mem_append.1 he with he | he
        · rcases List.mem_append.1 he with he | he
          · exact .inr (List.mem_of_mem_take he)
          · exact .inl (by simpa using he)
        · exact .inr (List.mem_of_mem_drop he)
      rcases key with rfl | he
      · exact lab_none _ _ _ rfl
      · exact ((hlab e he).below hW).more hW.size
    · rw [← hmore, List.length_map]; simp; omega
  have HSI : Hid (∀ W A' c', Below w.heap.size w W → RowE W W.heap.size A' ([blkE] ++ es ++ [endE]) → (A' = none → c' = 0) → n + 2 ≤ c' → Sli W A' c' inn) := Lib.hid fun W A' c' hW hr h0 hc' => by
    refine ⟨?_, h0, ?_⟩
    · rw [← hinn]
      refine inss_of hr fun e he => ?_
      have key : e = blkE ∨ e = endE ∨ e ∈ es := by
        rcases List.mem_append.1 he with he | he
        · rcases List.mem_append.1 he with he | he
          · exact .inl (by simpa using he)
          · exact .inr (.inr he)
        · exact .inr (.inl (by simpa using he))
      rcases key with rfl | rfl | he
      · exact lab_none _ _ _ rfl
      · exact lab_none _ _ _ rfl
      · exact ((hlab e he).below hW).more hW.size
    · rw [← hinn, List.length_map]; simp; omega
  clear hen hrow hlab hmore hinn hef
  go_enter Try.func7, Try.ntmps7
  go_upto_region 3 with (go_at_call 8; refine HA.out.mono ?_; rintro e w1 ⟨rfl, hb1⟩)
  clear HA
  go_wp2_with fail
  refine (HS.out _ hb1).mono ?_
  rintro e w2 ⟨rfl, rfl⟩
  clear HS
  go_wp2_with fail
  refine (HP1.out _ hb1).mono ?_
  intro e w3 hput
  obtain ⟨Aq, cq, rfl, _, _, _, _, hb3⟩ := put_get hput
  have hbw0 := hb1.trans (hb3.mono hb1.size)
  clear hb1 hb3 hput HP1
  go_upto_region 6 with fail
  go_cut [7] (fun s7 wx => ∃ A' c', s7 = .slice A' (n + 1) c' ∧ Hid (Sli wx A' c' more) ∧ Below w.heap.size w wx)
  case first =>
    clear HP2 HP3 HC1 HC2 HSI HEF
    refine wp_region_held_drew (S := fun _ => True) (by kernel_rfl) trivial (fun _ => ?_)
    have hbw : Below w.heap.size w w3.drew := hbw0.drew
    clear hbw0
    generalize w3.drew = V at *
    refine wpAnyH_take (i := 1) (oi := { dst := some 39, op := .move (.tmp 0), type := 26, pos := "law.go:122", after := #[], guard := none }) (v := ?_) rfl (by kernel_rfl) (by kernel_rfl) (by kernel_rfl) (fun _ _ _ h => h) (Or.inl ⟨by rfl, ?_⟩) trivial ?_
    rotate_left
    · (intro w' _; go_simp) <;> with_reducible rfl
    try simp only [Act.put, List.setIfInBounds_toArray, List.set_cons_zero, List.set_cons_succ]
    refine wpAnyH_take (i := 2) (oi := { dst := some 40, op := .move (.tmp 1), type := 3, pos := "law.go:122", after := #[], guard := none }) (v := ?_) rfl (by kernel_rfl) (by kernel_rfl) (by kernel_rfl) (fun _ _ _ h => h) (Or.inl ⟨by rfl, ?_⟩) trivial ?_
    rotate_left
    · (intro w' _; go_simp) <;> with_reducible rfl
    try simp only [Act.put, List.setIfInBounds_toArray, List.set_cons_zero, List.set_cons_succ]
    refine wpAnyH_take (i := 3) (oi := { dst := some 41, op := .slice 26 (.tmp 39) none (some (.tmp 40)) none, type := 26, pos := "law.go:122", after := #[{ on := 1, ground := .data }, { on := 2, ground := .data }], guard := none }) (v := ?_) rfl (by kernel_rfl) (by kernel_rfl) (by kernel_rfl) (fun _ _ _ h => h) (Or.inl ⟨by rfl, ?_⟩) trivial ?_
    rotate_left
    · (intro w' _; go_simp) <;> with_reducible rfl
    try simp only [Act.put, List.setIfInBounds_toArray, List.set_cons_zero, List.set_cons_succ]
    refine wpAnyH_take (i := 5) (oi := { dst := some 43, op := .build 25 #[(0, .const (.int .i64 1))], type := 25, pos := "law.go:122", after := #[], guard := none }) (v := ?_) rfl (by kernel_rfl) (by kernel_rfl) (by kernel_rfl) (fun _ _ _ h => h) (Or.inl ⟨by rfl, ?_⟩) trivial ?_
    rotate_left
    · (intro w' _; go_simp) <;> with_reducible rfl
    try simp only [Act.put, List.setIfInBounds_toArray, List.set_cons_zero, List.set_cons_succ]
    refine wpAnyH_take (i := 8) (oi := { dst := some 46, op := .move (.tmp 0), type := 26, pos := "law.go:122", after := #[], guard := none }) (v := ?_) rfl (by kernel_rfl) (by kernel_rfl) (by kernel_rfl) (fun _ _ _ h => h) (Or.inl ⟨by rfl, ?_⟩) trivial ?_
    rotate_left
    · (intro w' _; go_simp) <;> with_reducible rfl
    try simp only [Act.put, List.setIfInBounds_toArray, List.set_cons_zero, List.set_cons_succ]
    refine wpAnyH_take (i := 9) (oi := { dst := some 47, op := .move (.tmp 1), type := 3, pos := "law.go:122", after := #[], guard := none }) (v := ?_) rfl (by kernel_rfl) (by kernel_rfl) (by kernel_rfl) (fun _ _ _ h => h) (Or.inl ⟨by rfl, ?_⟩) trivial ?_
    rotate_left
    · (intro w' _; go_simp) <;> with_reducible rfl
    try simp only [Act.put, List.setIfInBounds_toArray, List.set_cons_zero, List.set_cons_succ]
    refine wpAnyH_take (i := 10) (oi := { dst := some 48, op := .slice 26 (.tmp 46) (some (.tmp 47)) none none, type := 26, pos := "law.go:122", after := #[{ on := 8, ground := .data }, { on := 9, ground := .data }], guard := none }) (v := ?_) rfl (by kernel_rfl) (by kernel_rfl) (by kernel_rfl) (fun _ _ _ h => h) (Or.inl ⟨by rfl, ?_⟩) trivial ?_
    rotate_left
    · (intro w' _; go_simp) <;> with_reducible rfl
    try simp only [Act.put, List.setIfInBounds_toArray, List.set_cons_zero, List.set_cons_succ]
    refine wpAnyH_ready (rs := [0, 6]) (by kernel_rfl) (by simp) ?_
    refine AllReadyH.cons (o := { dst := some 38, op := .buildSlice 26 0 #[], type := 26, pos := "law.go:122", after := #[], guard := none }) rfl (fun K hK => ?_) (AllReadyH.cons (o := { dst := some 44, op := .buildSlice 26 1 #[(0, .tmp 43)], type := 26, pos := "law.go:122", after := #[{ on := 5, ground := .data }], guard := none }) rfl (fun K hK => ?_) AllReadyH.nil)
    · go_simp
      have own0 : OwnX (V.alloc (.cells #[] 25)) V.heap.size (.slice (some ⟨V.heap.size, 0, none⟩) 0 0) [] := ownX_lit V [] #[] 0 rfl rfl (by simp [maxLen])
      have hb0 : Below V.heap.size V (V.alloc (.cells #[] 25)) := (Below.refl _ _).alloc (Nat.le_refl _) _
      have hs0 : (V.alloc (.cells #[] 25)).heap.size = V.heap.size + 1 := by simp
      refine hK.out _ _ trivial (fun _ => ?_)
      clear hK K
      try simp only [Act.put, List.setIfInBounds_toArray, List.set_cons_zero, List.set_cons_succ]
      generalize V.alloc (.cells #[] 25) = V1 at *
      refine wpAnyH_ready (rs := [4, 6]) (by kernel_rfl) (by simp) ?_
      refine AllReadyH.cons (o := { dst := some 42, op := .call { callee := .builtin .append, args := #[.tmp 38, .tmp 41], argTypes := #[26, 26] }, type := 26, pos := "law.go:122", after := #[{ on := 0, ground := .data }, { on := 3, ground := .data }], guard := none }) rfl (fun K hK => ?_) (AllReadyH.cons (o := { dst := some 44, op := .buildSlice 26 1 #[(0, .tmp 43)], type := 26, pos := "law.go:122", after := #[{ on := 5, ground := .data }], guard := none }) rfl (fun K hK => ?_) AllReadyH.nil)
      · refine app_ins_step rfl (.tmp 38) (.tmp 41) rfl V.heap.size _ [] rfl own0 b off (es.take p) p c w.heap.size p (by simp; have := HEN.out; omega) rfl (RowE.take (HROW.out.below (hbw.trans (hb0.mono hbw.size))) p) (by simp; have := HEN.out; omega) (by omega) hb0.size ?_
        intro A4 c4 w4 own4 _ _ _ hb4 _
        have hbV4 := hb0.trans hb4
        rw [List.nil_append] at own4
        clear own0 hb0 hb4 hs0
        refine hK.out _ _ trivial (fun _ => ?_)
        clear hK K
        try simp only [Act.put, List.setIfInBounds_toArray, List.set_cons_zero, List.set_cons_succ]
        refine wpAnyH_ready (rs := [6]) (by kernel_rfl) (by simp) ?_
        refine AllReadyH.cons (o := { dst := some 44, op := .buildSlice 26 1 #[(0, .tmp 43)], type := 26, pos := "law.go:122", after := #[{ on := 5, ground := .data }], guard := none }) rfl (fun K hK => ?_) AllReadyH.nil
        go_simp
        have rowN := rowE_lit w4 [nopE] #[.int .i64 1, .int .i64 0, .int .i64 0, .int .i64 0, .slice none 0 0] 1 rfl rfl (by simp [maxLen])
        have hbV : Below V.heap.size V (w4.alloc (.cells #[.int .i64 1, .int .i64 0, .int .i64 0, .int .i64 0, .slice none 0 0] 25)) := hbV4.alloc hbV4.size _
        replace own4 := own4.alloc (.cells #[.int .i64 1, .int .i64 0, .int .i64 0, .int .i64 0, .slice none 0 0] 25)
        clear hbV4
        refine hK.out _ _ trivial (fun _ => ?_)
        clear hK K
        try simp only [Act.put, List.setIfInBounds_toArray, List.set_cons_zero, List.set_cons_succ]
        generalize w4.alloc (.cells #[.int .i64 1, .int .i64 0, .int .i64 0, .int .i64 0, .slice none 0 0] 25) = w6 at *
        refine wpAnyH_ready (rs := [7]) (by kernel_rfl) (by simp) ?_
        refine AllReadyH.cons (o := { dst := some 45, op := .call { callee := .builtin .append, args := #[.tmp 42, .tmp 44], argTypes := #[26, 26] }, type := 26, pos := "law.go:122", after := #[{ on := 4, ground := .data }, { on := 6, ground := .data }, { on := 4, ground := .chain }], guard := none }) rfl (fun K hK => ?_) AllReadyH.nil
        refine app_ins_step rfl (.tmp 42) (.tmp 44) rfl V.heap.size _ (es.take p) rfl own4 _ 0 [nopE] 1 1 _ (p + 1) rfl rfl rowN (by simp; have := HEN.out; omega) (by omega) hbV.size ?_
        intro A7 c7 w7 own7 row7 hc7 hn7 hb7 _
        have hbV7 := hbV.trans hb7
        clear own4 rowN hbV hb7 row7
        refine hK.out _ _ trivial (fun _ => ?_)
        clear hK K
        try simp only [Act.put, List.setIfInBounds_toArray, List.set_cons_zero, List.set_cons_succ]
        refine wpAnyH_ready (rs := [11]) (by kernel_rfl) (by simp) ?_
        refine AllReadyH.cons (o := { dst := some 49, op := .call { callee := .builtin .append, args := #[.tmp 45, .tmp 48], argTypes := #[26, 26] }, type := 26, pos := "law.go:122", after := #[{ on := 7, ground := .data }, { on := 10, ground := .data }, { on := 7, ground := .chain }], guard := none }) rfl (fun K hK => ?_) AllReadyH.nil
        refine app_ins_step rfl (.tmp 45) (.tmp 48) rfl V.heap.size _ (es.take p ++ [nopE]) rfl own7 b (off + p * 5) (es.drop p) (n - p) (c - p) w.heap.size (n + 1) (by simp; have := HEN.out; omega) rfl (RowE.drop (HROW.out.below (hbw.trans (hbV7.mono hbw.size))) p) (by simp; have := HEN.out; omega) (by omega) hbV7.size ?_
        intro A11 c11 w11 own11 row11 hc11 hn11 hb11 _
        have hbV11 := hbV7.trans hb11
        have hbw11 := hbw.trans (hbV11.mono hbw.size)
        clear own7 hbV7 hb11 own11
        refine hK.out _ _ trivial (fun _ => ?_)
        clear hK K
        try simp only [Act.put, List.setIfInBounds_toArray, List.set_cons_zero, List.set_cons_succ]
        refine wpAnyH_ready (rs := [12]) (by kernel_rfl) (by simp) ?_
        refine AllReadyH.cons (o := { dst := some 7, op := .assign (.tmp 49), type := 26, pos := "law.go:122", after := #[{ on := 11, ground := .data }, { on := 11, ground := .chain }, { on := 0, ground := .phase }, { on := 1, ground := .phase }, { on := 2, ground := .phase }, { on := 3, ground := .phase }, { on := 4, ground := .phase }, { on := 5, ground := .phase }, { on := 6, ground := .phase }, { on := 7, ground := .phase }, { on := 8, ground := .phase }, { on := 9, ground := .phase }, { on := 10, ground := .phase }, { on := 11, ground := .phase }], guard := none }) rfl (fun K hK => ?_) AllReadyH.nil
        go_simp
        refine hK.out _ _ trivial (fun _ => ?_)
        clear hK K
        try simp only [Act.put, List.setIfInBounds_toArray, List.set_cons_zero, List.set_cons_succ]
        refine wpAnyH_done (by kernel_rfl) ?_ _
        go_wp2
        go_meet
        exact ⟨A11, c11, rfl, Lib.hid (HSL.out _ _ _ hbw11 row11 hn11 hc11), hbw11⟩
      · go_simp
        have rowN0 := rowE_lit V1 [nopE] #[.int .i64 1, .int .i64 0, .int .i64 0, .int .i64 0, .slice none 0 0] 1 rfl rfl (by simp [maxLen])
        have rowN1 : RowE (V1.alloc (.cells #[.int .i64 1, .int .i64 0, .int .i64 0, .int .i64 0, .slice none 0 0] 25)) (V1.alloc (.cells #[.int .i64 1, .int .i64 0, .int .i64 0, .int .i64 0, .slice none 0 0] 25)).heap.size (some ⟨V.heap.size + 1, 0, none⟩) [nopE] := by rw [← hs0]; simpa using rowN0
        have hb6 : Below V.heap.size V (V1.alloc (.cells #[.int .i64 1, .int .i64 0, .int .i64 0, .int .i64 0, .slice none 0 0] 25)) := hb0.alloc hb0.size _
        replace own0 := own0.alloc (.cells #[.int .i64 1, .int .i64 0, .int .i64 0, .int .i64 0, .slice none 0 0] 25)
        have hne : (Value.slice (some ⟨V.heap.size, 0, none⟩) 0 0).ownBlock ≠ some (V.heap.size + 1) := by simp [Value.ownBlock]
        clear hb0 rowN0
        refine hK.out _ _ trivial (fun _ => ?_)
        clear hK K
        try simp only [Act.put, List.setIfInBounds_toArray, List.set_cons_zero, List.set_cons_succ]
        generalize V1.alloc (.cells #[.int .i64 1, .int .i64 0, .int .i64 0, .int .i64 0, .slice none 0 0] 25) = V2 at *
        refine wpAnyH_ready (rs := [4]) (by kernel_rfl) (by simp) ?_
        refine AllReadyH.cons (o := { dst := some 42, op := .call { callee := .builtin .append, args := #[.tmp 38, .tmp 41], argTypes := #[26, 26] }, type := 26, pos := "law.go:122", after := #[{ on := 0, ground := .data }, { on := 3, ground := .data }], guard := none }) rfl (fun K hK => ?_) AllReadyH.nil
        refine app_ins_step rfl (.tmp 38) (.tmp 41) rfl V.heap.size _ [] rfl own0 b off (es.take p) p c w.heap.size p (by simp; have := HEN.out; omega) rfl (RowE.take (HROW.out.below (hbw.trans (hb6.mono hbw.size))) p) (by simp; have := HEN.out; omega) (by omega) hb6.size ?_
        intro A4 c4 w6 own4 _ _ _ hb4 hgr
        have hbV := hb6.trans hb4
        have rowN := rowN1.grown hgr hne
        rw [List.nil_append] at own4
        clear own0 hb6 hb4 hs0 rowN1 hgr hne
        refine hK.out _ _ trivial (fun _ => ?_)
        clear hK K
        try simp only [Act.put, List.setIfInBounds_toArray, List.set_cons_zero, List.set_cons_succ]
        refine wpAnyH_ready (rs := [7]) (by kernel_rfl) (by simp) ?_
        refine AllReadyH.cons (o := { dst := some 45, op := .call { callee := .builtin .append, args := #[.tmp 42, .tmp 44], argTypes := #[26, 26] }, type := 26, pos := "law.go:122", after := #[{ on := 4, ground := .data }, { on := 6, ground := .data }, { on := 4, ground := .chain }], guard := none }) rfl (fun K hK => ?_) AllReadyH.nil
        refine app_ins_step rfl (.tmp 42) (.tmp 44) rfl V.heap.size _ (es.take p) rfl own4 _ 0 [nopE] 1 1 _ (p + 1) rfl rfl rowN (by simp; have := HEN.out; omega) (by omega) hbV.size ?_
        intro A7 c7 w7 own7 row7 hc7 hn7 hb7 _
        have hbV7 := hbV.trans hb7
        clear own4 rowN hbV hb7 row7
        refine hK.out _ _ trivial (fun _ => ?_)
        clear hK K
        try simp only [Act.put, List.setIfInBounds_toArray, List.set_cons_zero, List.set_cons_succ]
        refine wpAnyH_ready (rs := [11]) (by kernel_rfl) (by simp) ?_
        refine AllReadyH.cons (o := { dst := some 49, op := .call { callee := .builtin .append, args := #[.tmp 45, .tmp 48], argTypes := #[26, 26] }, type := 26, pos := "law.go:122", after := #[{ on := 7, ground := .data }, { on := 10, ground := .data }, { on := 7, ground := .chain }], guard := none }) rfl (fun K hK => ?_) AllReadyH.nil
        refine app_ins_step rfl (.tmp 45) (.tmp 48) rfl V.heap.size _ (es.take p ++ [nopE]) rfl own7 b (off + p * 5) (es.drop p) (n - p) (c - p) w.heap.size (n + 1) (by simp; have := HEN.out; omega) rfl (RowE.drop (HROW.out.below (hbw.trans (hbV7.mono hbw.size))) p) (by simp; have := HEN.out; omega) (by omega) hbV7.size ?_
        intro A11 c11 w11 own11 row11 hc11 hn11 hb11 _
        have hbV11 := hbV7.trans hb11
        have hbw11 := hbw.trans (hbV11.mono hbw.size)
        clear own7 hbV7 hb11 own11
        refine hK.out _ _ trivial (fun _ => ?_)
        clear hK K
        try simp only [Act.put, List.setIfInBounds_toArray, List.set_cons_zero, List.set_cons_succ]
        refine wpAnyH_ready (rs := [12]) (by kernel_rfl) (by simp) ?_
        refine AllReadyH.cons (o := { dst := some 7, op := .assign (.tmp 49), type := 26, pos := "law.go:122", after := #[{ on := 11, ground := .data }, { on := 11, ground := .chain }, { on := 0, ground := .phase }, { on := 1, ground := .phase }, { on := 2, ground := .phase }, { on := 3, ground := .phase }, { on := 4, ground := .phase }, { on := 5, ground := .phase }, { on := 6, ground := .phase }, { on := 7, ground := .phase }, { on := 8, ground := .phase }, { on := 9, ground := .phase }, { on := 10, ground := .phase }, { on := 11, ground := .phase }], guard := none }) rfl (fun K hK => ?_) AllReadyH.nil
        go_simp
        refine hK.out _ _ trivial (fun _ => ?_)
        clear hK K
        try simp only [Act.put, List.setIfInBounds_toArray, List.set_cons_zero, List.set_cons_succ]
        refine wpAnyH_done (by kernel_rfl) ?_ _
        go_wp2
        go_meet
        exact ⟨A11, c11, rfl, Lib.hid (HSL.out _ _ _ hbw11 row11 hn11 hc11), hbw11⟩
    · go_simp
      have rowN0 := rowE_lit V [nopE] #[.int .i64 1, .int .i64 0, .int .i64 0, .int .i64 0, .slice none 0 0] 1 rfl rfl (by simp [maxLen])
      have hb6 : Below V.heap.size V (V.alloc (.cells #[.int .i64 1, .int .i64 0, .int .i64 0, .int .i64 0, .slice none 0 0] 25)) := (Below.refl _ _).alloc (Nat.le_refl _) _
      have hs6 : (V.alloc (.cells #[.int .i64 1, .int .i64 0, .int .i64 0, .int .i64 0, .slice none 0 0] 25)).heap.size = V.heap.size + 1 := by simp
      refine hK.out _ _ trivial (fun _ => ?_)
      clear hK K
      try simp only [Act.put, List.setIfInBounds_toArray, List.set_cons_zero, List.set_cons_succ]
      generalize V.alloc (.cells #[.int .i64 1, .int .i64 0, .int .i64 0, .int .i64 0, .slice none 0 0] 25) = V1 at *
      refine wpAnyH_ready (rs := [0]) (by kernel_rfl) (by simp) ?_
      refine AllReadyH.cons (o := { dst := some 38, op := .buildSlice 26 0 #[], type := 26, pos := "law.go:122", after := #[], guard := none }) rfl (fun K hK => ?_) AllReadyH.nil
      go_simp
      have own0 : OwnX (V1.alloc (.cells #[] 25)) (V.heap.size + 1) (.slice (some ⟨V.heap.size + 1, 0, none⟩) 0 0) [] := by rw [← hs6]; exact ownX_lit V1 [] #[] 0 rfl rfl (by simp [maxLen])
      have hb0 : Below (V.heap.size + 1) V1 (V1.alloc (.cells #[] 25)) := by rw [← hs6]; exact (Below.refl _ _).alloc (Nat.le_refl _) _
      have hle : V.heap.size ≤ V.heap.size + 1 := by omega
      refine hK.out _ _ trivial (fun _ => ?_)
      clear hK K
      try simp only [Act.put, List.setIfInBounds_toArray, List.set_cons_zero, List.set_cons_succ]
      generalize V1.alloc (.cells #[] 25) = V2 at *
      refine wpAnyH_ready (rs := [4]) (by kernel_rfl) (by simp) ?_
      refine AllReadyH.cons (o := { dst := some 42, op := .call { callee := .builtin .append, args := #[.tmp 38, .tmp 41], argTypes := #[26, 26] }, type := 26, pos := "law.go:122", after := #[{ on := 0, ground := .data }, { on := 3, ground := .data }], guard := none }) rfl (fun K hK => ?_) AllReadyH.nil
      refine app_ins_step rfl (.tmp 38) (.tmp 41) rfl (V.heap.size + 1) _ [] rfl own0 b off (es.take p) p c w.heap.size p (by simp; have := HEN.out; omega) rfl (RowE.take (HROW.out.below (hbw.trans ((hb6.trans (hb0.mono hle)).mono hbw.size))) p) (by simp; have := HEN.out; omega) (by omega) (by have := hb0.size; omega) ?_
      intro A4 c4 w6 own4 _ _ _ hb4 _
      have hb1b := hb0.trans hb4
      have hbV := hb6.trans (hb1b.mono hle)
      have rowN := rowN0.below hb1b
      rw [List.nil_append] at own4
      replace own4 := own4.from hle
      clear own0 hb6 hb4 hb0 hb1b rowN0
      refine hK.out _ _ trivial (fun _ => ?_)
      clear hK K
      try simp only [Act.put, List.setIfInBounds_toArray, List.set_cons_zero, List.set_cons_succ]
      refine wpAnyH_ready (rs := [7]) (by kernel_rfl) (by simp) ?_
      refine AllReadyH.cons (o := { dst := some 45, op := .call { callee := .builtin .append, args := #[.tmp 42, .tmp 44], argTypes := #[26, 26] }, type := 26, pos := "law.go:122", after := #[{ on := 4, ground := .data }, { on := 6, ground := .data }, { on := 4, ground := .chain }], guard := none }) rfl (fun K hK => ?_) AllReadyH.nil
      refine app_ins_step rfl (.tmp 42) (.tmp 44) rfl V.heap.size _ (es.take p) rfl own4 _ 0 [nopE] 1 1 _ (p + 1) rfl rfl rowN (by simp; have := HEN.out; omega) (by omega) hbV.size ?_
      intro A7 c7 w7 own7 row7 hc7 hn7 hb7 _
      have hbV7 := hbV.trans hb7
      clear own4 rowN hbV hb7 row7
      refine hK.out _ _ trivial (fun _ => ?_)
      clear hK K
      try simp only [Act.put, List.setIfInBounds_toArray, List.set_cons_zero, List.set_cons_succ]
      refine wpAnyH_ready (rs := [11]) (by kernel_rfl) (by simp) ?_
      refine AllReadyH.cons (o := { dst := some 49, op := .call { callee := .builtin .append, args := #[.tmp 45, .tmp 48], argTypes := #[26, 26] }, type := 26, pos := "law.go:122", after := #[{ on := 7, ground := .data }, { on := 10, ground := .data }, { on := 7, ground := .chain }], guard := none }) rfl (fun K hK => ?_) AllReadyH.nil
      refine app_ins_step rfl (.tmp 45) (.tmp 48) rfl V.heap.size _ (es.take p ++ [nopE]) rfl own7 b (off + p * 5) (es.drop p) (n - p) (c - p) w.heap.size (n + 1) (by simp; have := HEN.out; omega) rfl (RowE.drop (HROW.out.below (hbw.trans (hbV7.mono hbw.size))) p) (by simp; have := HEN.out; omega) (by omega) hbV7.size ?_
      intro A11 c11 w11 own11 row11 hc11 hn11 hb11 _
      have hbV11 := hbV7.trans hb11
      have hbw11 := hbw.trans (hbV11.mono hbw.size)
      clear own7 hbV7 hb11 own11
      refine hK.out _ _ trivial (fun _ => ?_)
      clear hK K
      try simp only [Act.put, List.setIfInBounds_toArray, List.set_cons_zero, List.set_cons_succ]
      refine wpAnyH_ready (rs := [12]) (by kernel_rfl) (by simp) ?_
      refine AllReadyH.cons (o := { dst := some 7, op := .assign (.tmp 49), type := 26, pos := "law.go:122", after := #[{ on := 11, ground := .data }, { on := 11, ground := .chain }, { on := 0, ground := .phase }, { on := 1, ground := .phase }, { on := 2, ground := .phase }, { on := 3, ground := .phase }, { on := 4, ground := .phase }, { on := 5, ground := .phase }, { on := 6, ground := .phase }, { on := 7, ground := .phase }, { on := 8, ground := .phase }, { on := 9, ground := .phase }, { on := 10, ground := .phase }, { on := 11, ground := .phase }], guard := none }) rfl (fun K hK => ?_) AllReadyH.nil
      go_simp
      refine hK.out _ _ trivial (fun _ => ?_)
      clear hK K
      try simp only [Act.put, List.setIfInBounds_toArray, List.set_cons_zero, List.set_cons_succ]
      refine wpAnyH_done (by kernel_rfl) ?_ _
      go_wp2
      go_meet
      exact ⟨A11, c11, rfl, Lib.hid (HSL.out _ _ _ hbw11 row11 hn11 hc11), hbw11⟩
  case rest =>
    obtain ⟨A7, c7, rfl, HS7, hb7⟩ := hcut
    clear HSL hbw0
    go_wp2_with fail
    refine (HP2.out _ _ _ hb7 HS7.out).mono ?_
    intro e w8 hput
    obtain ⟨Ar, cr, rfl, _, _, _, _, hb8⟩ := put_get hput
    have hb9 := hb7.trans (hb8.mono hb7.size)
    have HS9 := Lib.hid (HS7.out.below hb8)
    have hneq : ((e : Int) != (f : Int)) = false := by rcases HEF.out with ⟨rfl, rfl, _⟩ | ⟨rfl, rfl⟩ <;> rfl
    clear hb7 hb8 hput HP2 HS7
    go_wp2_with fail
    refine (HC1.out _ hb9).mono ?_
    rintro e w10 ⟨rfl, hb10⟩
    have hb11 := hb9.trans (hb10.mono hb9.size)
    have HS11 := Lib.hid (HS9.out.below hb10)
    clear hb9 hb10 HC1 HS9
    go_wp2_with fail
    refine (HC2.out _ _ _ hb11 HS11.out).mono ?_
    rintro e w12 ⟨rfl, hb12⟩
    have hb13 := hb11.trans (hb12.mono hb11.size)
    have hbb : (bb != bb) = false := by cases bb <;> rfl
    clear hb11 hb12 HC2 HS11
    have ownB := ownX_lit w12 [blkE] #[.int .i64 2, .int .i64 (-64), .int .i64 0, .int .i64 0, .slice none 0 0] 1 rfl rfl (by simp [maxLen])
    have hbB : Below w12.heap.size w12 (w12.alloc (.cells #[.int .i64 2, .int .i64 (-64), .int .i64 0, .int .i64 0, .slice none 0 0] 25)) := (Below.refl _ _).alloc (Nat.le_refl _) _
    have hbw12 := hb13.trans (hbB.mono hb13.size)
    go_wp2_with (first
      | (at_builtin; refine app_ins rfl (.tmp 66) (.tmp 67) rfl w12.heap.size _ [blkE] rfl ownB b off es n c w.heap.size (n + 1) HEN.out rfl (HROW.out.below hbw12) (by simp; have := HEN.out; omega) (by omega) hbB.size ?_; intro A14 c14 w14 own14 row14 hc14 hn14 hb14)
      | (at_builtin; refine app_ins rfl (.tmp 68) (.tmp 70) rfl w12.heap.size _ ([blkE] ++ es) rfl (own14.alloc _) _ 0 [endE] 1 1 _ (n + 2) rfl rfl (rowE_lit w14 [endE] #[.int .i64 11, .int .i64 0, .int .i64 0, .int .i64 0, .slice none 0 0] 1 rfl rfl (by simp [maxLen])) (by simp; have := HEN.out; omega) (by omega) (by have := hbB.size; have := hb14.size; simp; omega) ?_; intro A15 c15 w15 own15 row15 hc15 hn15 hb15))
    have hb14' := (hbB.trans hb14)
    have hb16 := hb14'.trans (((Below.refl _ _).alloc hb14'.size _).trans hb15)
    have hb17 := hb13.trans (hb16.mono hb13.size)
    have HS15 := Lib.hid (HSI.out _ _ _ hb17 row15 hn15 hc15)
    clear ownB hbB hbw12 own14 row14 hb14 own15 row15 hb15 hb14' hb16 hb13 HSI HROW
    refine (HP3.out _ _ _ hb17 HS15.out).mono ?_
    intro e w18 hput
    obtain ⟨As, cs, rfl, _, _, _, _, hb18⟩ := put_get hput
    have hb19 := hb17.trans (hb18.mono hb17.size)
    clear hb17 hb18 hput HP3 HS15
    rcases HEF.out with ⟨rfl, rfl, rfl, hg⟩ | ⟨rfl, rfl⟩
    · rcases hg with ⟨rfl, rfl⟩ | rfl
      · have e1 : (((kq + 1 : Nat) : Int) == (kq : Int) + 1) = true := by simp
        have e2 : (((kq + 3 : Nat) : Int) == (kq : Int) + 3) = true := by simp
        generalize hx1 : kq + 1 = x1 at *
        generalize hx3 : kq + 3 = x3 at *
        go_wp2
        go_ret
        exact ⟨rfl, hb19⟩
      · have e1 : (((kq + 1 : Nat) : Int) == (kq : Int) + 1) = true := by simp
        generalize hx1 : kq + 1 = x1 at *
        go_wp2
        go_ret
        exact ⟨rfl, hb19⟩
    · go_wp2
      go_ret
      exact ⟨rfl, hb19⟩
end
theorem putRes_bool (b : Bool) (m : List Nat) : (b = true ∧ putRes b [] m = (m, 0)) ∨ (b = false ∧ putRes b [] m = ([], 2)) := by
  cases b with
  | true => exact .inl ⟨rfl, by simp [putRes]⟩
  | false => exact .inr ⟨rfl, rfl⟩
theorem nops_law {T : World → Prop} (D : Does T) (A : Option Addr) (xs : List Ins) (c : Nat) (at' : Int) (w : World) (hT : T w) (hsli : Sli w A c xs) (hws : ∀ y ∈ xs, wide y) :
    Calls Try.prog 7 #[.slice A xs.length c, .int .i64 at'] w fun e w' => e = .returned (.bool true) ∧ Below w.heap.size w w' := by
  have HA := Lib.hid (awake_any D w hT)
  have HS := Lib.hid (fun W (hW : Below w.heap.size w W) => short_any A xs c _ W ((hsli.below hW).ins))
  generalize hbb : shortB xs = bb at HS
  cases bb with
  | false => exact nops_no1 A xs.length c at' w HA HS
  | true =>
    have hln := shortB_lens xs hbb
    by_cases h1 : (1900 : Int) < (xs.length : Int)
    · exact nops_no2 A xs.length c at' w HA HS h1
    by_cases h2 : at' < 0
    · exact nops_no3 A xs.length c at' w HA HS h1 h2
    by_cases h3 : (xs.length : Int) ≤ at'
    · exact nops_no4 A xs.length c at' w HA HS h1 h2 h3
    obtain ⟨p, rfl⟩ : ∃ p : Nat, at' = (p : Int) := ⟨at'.toNat, by omega⟩
    have hroom := hsli.room
    obtain ⟨b, off, rfl, _, _⟩ := hsli.ins (by omega)
    obtain ⟨es, hes, hrow, hlab⟩ := hsli.ins.ents
    have hen : es.length = xs.length := by rw [← hes, List.length_map]
    have hshort : short xs := ⟨hln.1, fun y hy => ⟨hws y hy, hln.2 y hy⟩⟩
    have hz : ∀ op a : Int, I64 op → I64 a → wide { zeroIns with op := op, a := a } ∧ ({ zeroIns with op := op, a := a } : Ins).l.length ≤ 100 := fun op a ho ha => ⟨⟨ho, ha, by simp [zeroIns, I64], by simp [zeroIns, I64], by simp [zeroIns]⟩, by simp [zeroIns]⟩
    obtain ⟨more, hmore⟩ : ∃ m, (es.take p ++ [nopE] ++ es.drop p).map (fun e => e.1) = m := ⟨_, rfl⟩
    obtain ⟨inn, hinn⟩ : ∃ m, ([blkE] ++ es ++ [endE]).map (fun e => e.1) = m := ⟨_, rfl⟩
    have em : more = xs.take p ++ { zeroIns with op := 1 } :: xs.drop p := by
      rw [← hmore, List.map_append, List.map_append, List.map_take, List.map_drop, hes]
      simp [nopE]
    have ei : inn = { zeroIns with op := 2, a := -64 } :: (xs ++ [{ zeroIns with op := 11 }]) := by
      rw [← hinn, List.map_append, List.map_append, hes]
      simp [blkE, endE]
    have hsm : short more := by
      refine ⟨by rw [em]; simp; omega, fun y hy => ?_⟩
      rw [em] at hy
      rcases List.mem_append.1 hy with hy | hy
      · exact hshort.2 y (List.mem_of_mem_take hy)
      · rcases List.mem_cons.1 hy with rfl | hy
        · exact hz 1 0 (by unfold I64; omega) (by unfold I64; omega)
        · exact hshort.2 y (List.mem_of_mem_drop hy)
    have hsi : short inn := by
      refine ⟨by rw [ei]; simp; omega, fun y hy => ?_⟩
      rw [ei] at hy
      rcases List.mem_cons.1 hy with rfl | hy
      · exact hz 2 (-64) (by unfold I64; omega) (by unfold I64; omega)
      · rcases List.mem_append.1 hy with hy | hy
        · exact hshort.2 y hy
        · rw [List.mem_singleton.1 hy]
          exact hz 11 0 (by unfold I64; omega) (by unfold I64; omega)
    have hlm : more.length = xs.length + 1 := by rw [em]; simp; omega
    have hli : inn.length = xs.length + 2 := by rw [ei]; simp
    have hBB : shutB more = shutB xs := by
      have := closed_nop xs p 0 [] (by omega) (by omega)
      rw [← em] at this
      rw [Bool.eq_iff_iff, shutB_iff, shutB_iff]
      exact this
    have HP1 : Hid (∀ W, Below w.heap.size w W → Calls Try.prog 17 #[.slice none 0 0, .slice (some ⟨b, off, none⟩) xs.length c] W (PutIs W (putRes (shutB xs) [] (allBytes xs)).1 _ (putRes (shutB xs) [] (allBytes xs)).2)) :=
      Lib.hid fun W hW => D.putBody none _ [] xs 0 c _ W (slc_none W) (by simp) (hsli.below hW) hshort rfl (D.keep _ _ hT hW)
    have HP2 : Hid (∀ W A' c', Below w.heap.size w W → Sli W A' c' more → Calls Try.prog 17 #[.slice none 0 0, .slice A' (xs.length + 1) c'] W (PutIs W (putRes (shutB xs) [] (allBytes more)).1 (putRes (shutB xs) [] (allBytes more)).1.length (putRes (shutB xs) [] (allBytes more)).2)) :=
      Lib.hid fun W A' c' hW hx => by
        have := D.putBody none A' [] more 0 c' _ W (slc_none W) (by simp) hx hsm rfl (D.keep _ _ hT hW)
        rw [hlm, hBB] at this
        exact this
    have HP3 : Hid (∀ W A' c', Below w.heap.size w W → Sli W A' c' inn → Calls Try.prog 17 #[.slice none 0 0, .slice A' (xs.length + 2) c'] W (PutIs W (putRes (shutB inn) [] (allBytes inn)).1 (putRes (shutB inn) [] (allBytes inn)).1.length (putRes (shutB inn) [] (allBytes inn)).2)) :=
      Lib.hid fun W A' c' hW hx => by
        have := D.putBody none A' [] inn 0 c' _ W (slc_none W) (by simp) hx hsi rfl (D.keep _ _ hT hW)
        rw [hli] at this
        exact this
    have HC1 : Hid (∀ W, Below w.heap.size w W → Calls Try.prog 19 #[.slice (some ⟨b, off, none⟩) xs.length c] W (Tells W (shutB xs))) := Lib.hid fun W hW => D.closed _ xs c W (hsli.below hW) hshort (D.keep _ _ hT hW)
    have HC2 : Hid (∀ W A' c', Below w.heap.size w W → Sli W A' c' more → Calls Try.prog 19 #[.slice A' (xs.length + 1) c'] W (Tells W (shutB xs))) := Lib.hid fun W A' c' hW hx => by
      have := D.closed A' more c' W hx hsm (D.keep _ _ hT hW)
      rw [hlm, hBB] at this
      exact this
    refine nops_walk b off xs.length c p w es (by omega) (by omega) hroom hen hrow hlab HA HS more inn hmore hinn _ _ _ _ _ _ _ _ _ (shutB xs) ?_ ?_ HP1 HP2 HP3 HC1 HC2
    · rcases putRes_bool (shutB xs) (allBytes xs) with ⟨h, e⟩ | ⟨_, e⟩
      · rw [e]; have := (closed_bytes xs ((shutB_iff xs).1 h)).2; simp only; omega
      · rw [e]; simp
    · rcases putRes_bool (shutB xs) (allBytes xs) with ⟨h, e⟩ | ⟨h, e⟩
      · have e2 : putRes (shutB xs) [] (allBytes more) = (allBytes more, 0) := by rw [h]; simp [putRes]
        rw [e, e2]
        refine .inl ⟨rfl, rfl, by rw [em]; exact allBytes_nop xs p, ?_⟩
        rcases putRes_bool (shutB inn) (allBytes inn) with ⟨_, e3⟩ | ⟨_, e3⟩
        · rw [e3]; exact .inl ⟨rfl, by rw [ei]; exact allBytes_in xs⟩
        · rw [e3]; exact .inr rfl
      · have e2 : putRes (shutB xs) [] (allBytes more) = ([], 2) := by rw [h]; rfl
        rw [e, e2]
        exact .inr ⟨rfl, rfl⟩
end Go.Proofs.Ytdipgokbfjbgfaa.Ins
