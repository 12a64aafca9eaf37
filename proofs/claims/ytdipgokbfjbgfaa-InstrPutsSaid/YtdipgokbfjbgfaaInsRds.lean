/-
  InsRd: instr's reader in memory; its methods fail, pass, byte, zero: what each comes to. Conditions: the reader's cells, the bytes that it leads to.
  InsRdNum: instr's reader: its methods number, signed, block: what each comes to, whatever the rest of the bytes is. Conditions: the reader's cells, what the slice from its place on is.
  InsRdAll: instr's reader: its methods number, signed, block, code, labels: what each comes to, at any place. Conditions: the reader's cells, the bytes that it leads to.
-/
import Derived.Test.YtdipgokbfjbgfaaInsPlain
import Derived.BigQuiet
import Derived.Test.YtdipgokbfjbgfaaTypAll
import Derived.Deep.RegionHeld3
import Derived.Deep.RegionHeldLaw
namespace Go.Proofs.Ytdipgokbfjbgfaa.Ins
open Go.RowKit Leb Typ

/-- A reader in block r: its slice, its place, its error. -/
structure Rd (w : World) (r : Nat) (S : Value) (p e : Nat) : Prop where
  lt : r < w.heap.size
  c0 : w.cell? ⟨r, 0, none⟩ = some S
  c1 : w.cell? ⟨r, 1, none⟩ = some (.int .i64 (p : Int))
  c2 : w.cell? ⟨r, 2, none⟩ = some (.int .i64 (e : Int))
  z1 : w.frozen? ⟨r, 1, none⟩ = false
  z2 : w.frozen? ⟨r, 2, none⟩ = false
theorem Rd.step {w w' : World} {r : Nat} {S : Value} {p e : Nat} (h : Rd w r S p e) (hs : w.heap.size ≤ w'.heap.size) (hh : w'.heap[r]? = w.heap[r]?) : Rd w' r S p e := by
  have C : ∀ q : Addr, q.block = r → w'.cell? q = w.cell? q := fun q hq => World.cell?_of_block (by rw [hq]; exact hh)
  have F : ∀ q : Addr, q.block = r → w'.frozen? q = w.frozen? q := fun q hq => World.frozen?_of_block (by rw [hq]; exact hh)
  exact ⟨Nat.lt_of_lt_of_le h.lt hs, (C _ rfl).trans h.c0, (C _ rfl).trans h.c1, (C _ rfl).trans h.c2, (F _ rfl).trans h.z1, (F _ rfl).trans h.z2⟩
theorem Rd.keep {w w' : World} {r : Nat} {S : Value} {p e : Nat} (h : Rd w r S p e) (hb : Below w.heap.size w w') : Rd w' r S p e := h.step hb.size (hb.block _ h.lt)
theorem Rd.setE {w : World} {r : Nat} {S : Value} {p e : Nat} (h : Rd w r S p e) (e' : Nat) : Rd (w.setCell ⟨r, 2, none⟩ (.int .i64 (e' : Int))) r S p e' :=
  ⟨by simpa using h.lt, (World.cell?_setCell_other _ _ _ _ (by simp)).trans h.c0, (World.cell?_setCell_other _ _ _ _ (by simp)).trans h.c1, World.cell?_setCell_same _ _ _ h.c2, by simpa using h.z1, by simpa using h.z2⟩
theorem Rd.setP {w : World} {r : Nat} {S : Value} {p e : Nat} (h : Rd w r S p e) (p' : Nat) : Rd (w.setCell ⟨r, 1, none⟩ (.int .i64 (p' : Int))) r S p' e :=
  ⟨by simpa using h.lt, (World.cell?_setCell_other _ _ _ _ (by simp)).trans h.c0, World.cell?_setCell_same _ _ _ h.c1, (World.cell?_setCell_other _ _ _ _ (by simp)).trans h.c2, by simpa using h.z1, by simpa using h.z2⟩
theorem by_set (w : World) (r i : Nat) (u : Value) : w.grownBy (w.setCell ⟨r, i, none⟩ u) (some r) :=
  ⟨rfl, rfl, rfl, by simp, fun k _ hne => Below.heap_setCell _ _ _ _ (fun e => hne (by rw [e]))⟩
theorem by_refl (w : World) (o : Option Nat) : w.grownBy w o := ⟨rfl, rfl, rfl, Nat.le_refl _, fun _ _ _ => rfl⟩
theorem by_below {w w' : World} (h : Below w.heap.size w w') (o : Option Nat) : w.grownBy w' o := ⟨h.os, h.tape, h.output, h.size, fun k hk _ => h.block k hk⟩
theorem by_trans {a b c : World} {o : Option Nat} (h : a.grownBy b o) (k : b.grownBy c o) : a.grownBy c o :=
  ⟨k.os.trans h.os, k.tape.trans h.tape, k.output.trans h.output, Nat.le_trans h.size k.size, fun i hi hn => (k.block i (Nat.lt_of_lt_of_le hi h.size) hn).trans (h.block i hi hn)⟩
theorem by_drewN {a b : World} {o : Option Nat} (h : a.grownBy b o) (n : Nat) : a.grownBy (b.drewN n) o := by_trans h (by_below (below_drewN (Below.refl _ _) n) o)
theorem Rd.drewN {w : World} {r : Nat} {S : Value} {p e : Nat} (h : Rd w r S p e) (n : Nat) : Rd (w.drewN n) r S p e := h.keep (below_drewN (Below.refl _ _) n)
/-- What a method leaves. -/
def RdIs (w : World) (r : Nat) (S : Value) (p e : Nat) (v : Value) (en : Ending) (w' : World) : Prop := en = .returned v ∧ Rd w' r S p e ∧ w.grownBy w' (some r)
section
variable (w : World) (r : Nat) (S : Value) (p e : Nat)
theorem fail_0 (e' : Nat) (H : Hid (Rd w r S p 0)) : Calls Try.prog 57 #[.pointer (some ⟨r, 0, none⟩), .int .i64 (e' : Int)] w (RdIs w r S p e' (.tuple #[])) := by
  obtain ⟨lt, c0, c1, c2, z1, z2⟩ := H.out
  go_enter Try.func57, Try.ntmps57
  go_wp2
  refine bodyPost_end (v := .tuple #[]) (by simp [results, Try.results57, go_sem]) rfl ?_
  exact ⟨rfl, H.out.setE e', by_set _ _ _ _⟩
theorem fail_n (e' : Nat) (he : ((e : Int) == 0) = false) (H : Hid (Rd w r S p e)) : Calls Try.prog 57 #[.pointer (some ⟨r, 0, none⟩), .int .i64 (e' : Int)] w (RdIs w r S p e (.tuple #[])) := by
  obtain ⟨lt, c0, c1, c2, z1, z2⟩ := H.out
  go_enter Try.func57, Try.ntmps57
  go_wp2
  refine bodyPost_end (v := .tuple #[]) (by simp [results, Try.results57, go_sem]) rfl ?_
  exact ⟨rfl, H.out, by_refl _ _⟩
theorem fail_any (e' : Nat) (H : Rd w r S p e) : Calls Try.prog 57 #[.pointer (some ⟨r, 0, none⟩), .int .i64 (e' : Int)] w (RdIs w r S p (fst2 e e') (.tuple #[])) := by
  by_cases he : e = 0
  · subst he; exact fail_0 w r S p e' (Lib.hid H)
  · rw [fst2_n he]; exact fail_n w r S p e e' (by simp; omega) (Lib.hid H)
theorem pass_any (n e' : Nat) (hn : p + n ≤ 20000000) (H : Rd w r S p e) : Calls Try.prog 75 #[.pointer (some ⟨r, 0, none⟩), .int .i64 (n : Int), .int .i64 (e' : Int)] w (RdIs w r S (p + n) (fst2 e e') (.tuple #[])) := by
  obtain ⟨lt, c0, c1, c2, z1, z2⟩ := H
  have hw : wrap64 ((p : Int) + (n : Int)) = ((p + n : Nat) : Int) := by rw [IntWalk.wrap64_in _ (by omega)]; omega
  have HF : Hid (Calls Try.prog 57 #[.pointer (some ⟨r, 0, none⟩), .int .i64 (e' : Int)] (w.setCell ⟨r, 1, none⟩ (.int .i64 ((p + n : Nat) : Int))) (RdIs (w.setCell ⟨r, 1, none⟩ (.int .i64 ((p + n : Nat) : Int))) r S (p + n) (fst2 e e') (.tuple #[]))) := Lib.hid (fail_any _ r S (p + n) e e' (Rd.setP ⟨lt, c0, c1, c2, z1, z2⟩ _))
  generalize p + n = m at *
  clear hn
  go_enter Try.func75, Try.ntmps75
  go_wp2_with fail
  refine HF.out.mono ?_
  rintro en w1 ⟨rfl, hr1, hg1⟩
  go_wp2
  refine bodyPost_end (v := .tuple #[]) (by simp [results, Try.results75, go_sem]) rfl ?_
  exact ⟨rfl, hr1, by_trans (by_set _ _ _ _) hg1⟩
variable (A : Option Addr) (len c : Nat)
theorem byte_end (H : Hid (Rd w r (.slice A p c) p e)) (HF : Hid (∀ W, Rd W r (.slice A p c) p e → Calls Try.prog 57 #[.pointer (some ⟨r, 0, none⟩), .int .i64 1] W (RdIs W r (.slice A p c) p (fst2 e 1) (.tuple #[])))) : Calls Try.prog 73 #[.pointer (some ⟨r, 0, none⟩)] w (RdIs w r (.slice A p c) p (fst2 e 1) (.int .u8 0)) := by
  obtain ⟨lt, c0, c1, c2, z1, z2⟩ := H.out
  go_enter Try.func73, Try.ntmps73
  go_wp2_with fail
  go_quiet (fail)
  go_wp2_with fail
  refine (HF.out _ (H.out.drewN _)).mono ?_
  rintro en w1 ⟨rfl, hr1, hg1⟩
  go_wp2
  go_ret
  exact ⟨rfl, hr1, by_trans (by_drewN (by_refl _ _) _) hg1⟩
set_option maxHeartbeats 1000000 in
theorem byte_in (b off q y : Nat) (hq : p + 1 = q) (hp : p < len) (hl : len ≤ 10000000) (hrb : b ≠ r) (hy : w.cell? ⟨b, off + p, none⟩ = some (.int .u8 (y : Int))) (H : Hid (Rd w r (.slice (some ⟨b, off, none⟩) len c) p e)) : Calls Try.prog 73 #[.pointer (some ⟨r, 0, none⟩)] w (RdIs w r (.slice (some ⟨b, off, none⟩) len c) q e (.int .u8 (y : Int))) := by
  obtain ⟨lt, c0, c1, c2, z1, z2⟩ := H.out
  have hne : ((p : Int) == (len : Int)) = false := by simp; omega
  have hw : wrap64 ((p : Int) + 1) = (q : Int) := by rw [IntWalk.wrap64_in _ (by omega)]; omega
  have hw2 : wrap64 ((q : Int) - 1) = (p : Int) := by rw [IntWalk.wrap64_in _ (by omega)]; omega
  have hpi : (p : Int) < (len : Int) := by omega
  have HS : Hid (∀ n, Rd ((w.drewN n).setCell ⟨r, 1, none⟩ (.int .i64 (q : Int))) r (.slice (some ⟨b, off, none⟩) len c) q e ∧ ((w.drewN n).setCell ⟨r, 1, none⟩ (.int .i64 (q : Int))).cell? ⟨b, off + p, none⟩ = some (.int .u8 (y : Int)) ∧ w.grownBy ((w.drewN n).setCell ⟨r, 1, none⟩ (.int .i64 (q : Int))) (some r)) := Lib.hid fun n =>
    ⟨(H.out.drewN n).setP q, (World.cell?_setCell_other _ _ _ _ (by simp)).trans hy, by_trans (by_drewN (by_refl _ _) n) (by_set _ _ _ _)⟩
  clear hq hl hp
  go_enter Try.func73, Try.ntmps73
  go_wp2_with fail
  go_quiet (fail)
  go_wp2_with fail
  obtain ⟨hR, hc, hg⟩ := HS.out nq
  clear HS hw c0 c1 c2 z1 z2 hy H lt hne
  generalize (w.drewN nq).setCell _ _ = W at *
  have HR := Lib.hid hR
  obtain ⟨lt, c0, c1, c2, z1, z2⟩ := hR
  go_quiet (fail)
  go_wp2
  go_ret
  exact ⟨rfl, HR.out.drewN _, by_drewN hg _⟩
end
section
variable {w : World} {r : Nat} {A : Option Addr} {c p e : Nat} {l : List Nat}
/-- The bytes that a reader leads to lie ahead of it. -/
structure RdB (w : World) (r : Nat) (A : Option Addr) (c : Nat) (l : List Nat) : Prop where
  bytes : Bytes w r A l
  nil : A = none → c = 0
  room : l.length ≤ c
  most : l.length ≤ 10000000
theorem RdB.keep {w w' : World} {r : Nat} {A : Option Addr} {c : Nat} {l : List Nat} (h : RdB w r A c l) (hlt : r < w.heap.size) (hg : w.grownBy w' (some r)) : RdB w' r A c l := by
  refine ⟨⟨h.bytes.1, fun h0 => ?_⟩, h.nil, h.room, h.most⟩
  obtain ⟨b, off, e, hb, hc⟩ := h.bytes.2 h0
  refine ⟨b, off, e, hb, fun j hj => ?_⟩
  rw [World.cell?_of_block (hg.block b (by omega) (by simp; omega))]
  exact hc j hj
theorem byte_any (H : Rd w r (.slice A l.length c) p e) (hb : RdB w r A c l) (hp : p ≤ l.length) :
    Calls Try.prog 73 #[.pointer (some ⟨r, 0, none⟩)] w (RdIs w r (.slice A l.length c) (byteRes l p).2.1 (fst2 e (byteRes l p).2.2) (.int .u8 ((byteRes l p).1 : Int))) := by
  unfold byteRes
  by_cases h : l.length ≤ p
  · rw [if_pos h]
    obtain rfl : p = l.length := by omega
    exact byte_end w r l.length e A c (Lib.hid H) (Lib.hid fun W HW => fail_any W r _ _ e 1 HW)
  · rw [if_neg h]
    simp only [fst2_0]
    obtain ⟨b, off, rfl, hlt, hc⟩ := hb.bytes.2 (by omega)
    have hg : l.getD p 0 = l[p]'(by omega) := by simp [List.getD, List.getElem?_eq_getElem (show p < l.length by omega)]
    rw [hg]
    exact byte_in w r p e l.length c b off (p + 1) _ rfl (by omega) hb.most (by omega) (hc p (by omega)) (Lib.hid H)
end
section
variable (w : World) (r : Nat) (S : Value) (p e y p1 e1 : Nat)
theorem zero_0 (HB : Hid (Calls Try.prog 73 #[.pointer (some ⟨r, 0, none⟩)] w (RdIs w r S p1 e1 (.int .u8 0)))) : Calls Try.prog 61 #[.pointer (some ⟨r, 0, none⟩)] w (RdIs w r S p1 e1 (.tuple #[])) := by
  go_enter Try.func61, Try.ntmps61
  go_wp2_with fail
  refine HB.out.mono ?_
  rintro en w1 ⟨rfl, hr1, hg1⟩
  go_wp2
  refine bodyPost_end (v := .tuple #[]) (by simp [results, Try.results61, go_sem]) rfl ?_
  exact ⟨rfl, hr1, hg1⟩
theorem zero_n (hy : ((y : Int) != 0) = true) (HB : Hid (Calls Try.prog 73 #[.pointer (some ⟨r, 0, none⟩)] w (RdIs w r S p1 e1 (.int .u8 (y : Int))))) (HF : Hid (∀ W, Rd W r S p1 e1 → Calls Try.prog 57 #[.pointer (some ⟨r, 0, none⟩), .int .i64 2] W (RdIs W r S p1 (fst2 e1 2) (.tuple #[])))) : Calls Try.prog 61 #[.pointer (some ⟨r, 0, none⟩)] w (RdIs w r S p1 (fst2 e1 2) (.tuple #[])) := by
  go_enter Try.func61, Try.ntmps61
  go_wp2_with fail
  refine HB.out.mono ?_
  rintro en w1 ⟨rfl, hr1, hg1⟩
  go_wp2_with fail
  refine (HF.out _ hr1).mono ?_
  rintro en w2 ⟨rfl, hr2, hg2⟩
  go_wp2
  refine bodyPost_end (v := .tuple #[]) (by simp [results, Try.results61, go_sem]) rfl ?_
  exact ⟨rfl, hr2, by_trans hg1 hg2⟩
end
theorem rzero_any {w : World} {r : Nat} {A : Option Addr} {c p e : Nat} {l : List Nat} (H : Rd w r (.slice A l.length c) p e) (hb : RdB w r A c l) (hp : p ≤ l.length) :
    Calls Try.prog 61 #[.pointer (some ⟨r, 0, none⟩)] w (RdIs w r (.slice A l.length c) (zeroRes l p e).1 (zeroRes l p e).2 (.tuple #[])) := by
  have HB := Lib.hid (byte_any H hb hp)
  unfold zeroRes
  generalize byteRes l p = g at *
  obtain ⟨y, p1, e1⟩ := g
  simp only at HB ⊢
  by_cases h : y = 0
  · subst h
    rw [if_neg (by simp), fst2_0]
    exact zero_0 w r _ p1 _ HB
  · rw [if_pos h]
    exact zero_n w r _ y p1 _ (by simp; omega) HB (Lib.hid fun W HW => fail_any W r _ _ _ 2 HW)
end Go.Proofs.Ytdipgokbfjbgfaa.Ins
namespace Go.Proofs.Ytdipgokbfjbgfaa.Ins
open Go.RowKit Leb Typ

set_option maxRecDepth 100000 in
theorem slice_at (A : Option Addr) (l : List Nat) (c p B : Nat) (w : World) (hb : Bytes w B A l) (hn : A = none → c = 0) (hr : l.length ≤ c) (hp : p ≤ l.length) :
    ∃ A' c', (∀ W, (Instr.slice 22 (.slice A l.length c) (some (.int .i64 (p : Int))) none none).run Try.prog W = .ok (.slice A' (l.length - p) c') W) ∧ (A' = none → c' = 0) ∧ l.length - p ≤ c' ∧ (∀ W, Bytes W B A l → Bytes W B A' (l.drop p)) := by
  have hsz : ∀ W, (sizeOf (Try.prog.elem 22)).run Try.prog W = .ok 1 W := fun W => by kernel_rfl
  have key : ∀ W, (Instr.slice 22 (.slice A l.length c) (some (.int .i64 (p : Int))) none none).run Try.prog W = .ok (sliced A p l.length c 1) W := fun W => by
    rw [run_slice_l W 22 A l.length c (show Try.prog.underlying 22 = some (.slice (Try.prog.elem 22)) from by kernel_rfl) .i64 (p : Int) (by omega) (by omega), hsz W]
    simp [Result.andThen]
  by_cases hc : c = p
  · refine ⟨A, c - p, fun W => ?_, fun h => by rw [hn h]; omega, by omega, fun W hW => ?_⟩
    · rw [key W]; simp [sliced, hc]
    · obtain rfl : p = l.length := by omega
      rw [List.drop_length]
      exact ⟨by simp, by simp⟩
  · refine ⟨A.map (·.add p), c - p, fun W => ?_, fun h => ?_, by omega, fun W hW => ?_⟩
    · rw [key W]; simp [sliced, hc]
    · cases A with
      | none => rw [hn rfl]; omega
      | some ad => simp at h
    · by_cases hl : l.length = 0
      · obtain rfl : l = [] := List.eq_nil_of_length_eq_zero hl
        simp only [List.drop_nil]
        exact ⟨by simp, by simp⟩
      · obtain ⟨b, off, rfl, h2, h3⟩ := hW.2 (by omega)
        have := bytes_drop hW p
        by_cases h0 : p = 0
        · subst h0; simpa [Addr.add] using this
        · simpa [Addr.add, h0] using this
def QuietIs (w : World) (v : Value) (e : Ending) (w' : World) : Prop := e = .returned v ∧ ∃ m, w' = w.drewN m
def BlockIs (w : World) (v : Value) (e : Ending) (w' : World) : Prop := e = .returned v ∧ Below w.heap.size w w'
section
variable (w : World) (r : Nat) (A A' : Option Addr) (len c n' c' p e s e1 p1 e2 : Nat) (H : Hid (Rd w r (.slice A len c) p e))
  (HS : ∀ W, (Instr.slice 22 (.slice A len c) (some (.int .i64 (p : Int))) none none).run Try.prog W = .ok (.slice A' n' c') W)
  (HP : Hid (∀ W, Rd W r (.slice A len c) p e → Calls Try.prog 75 #[.pointer (some ⟨r, 0, none⟩), .int .i64 (s : Int), .int .i64 (e1 : Int)] W (RdIs W r (.slice A len c) p1 e2 (.tuple #[]))))
include H HS HP
set_option maxHeartbeats 1000000 in
set_option maxRecDepth 100000 in
theorem number_at (n : Nat) (hn : (n : Int) < 4294967296)
    (HU : Hid (∀ W, Calls Try.prog 76 #[.slice A' n' c', .int .i64 32] (w.drewN W) (QuietIs (w.drewN W) (.tuple #[.int .u64 (n : Int), .int .i64 (s : Int), .int .i64 (e1 : Int)])))) :
    Calls Try.prog 59 #[.pointer (some ⟨r, 0, none⟩)] w (RdIs w r (.slice A len c) p1 e2 (.int .i64 (n : Int))) := by
  obtain ⟨lt, c0, c1, c2, z1, z2⟩ := H.out
  go_enter Try.func59, Try.ntmps59
  go_wp2_with fail
  go_quiet ((go_at_call 76; exact Calls.quiet_of (HU.out _)))
  go_wp2_with fail
  refine (HP.out _ (H.out.drewN _)).mono ?_
  rintro en w1 ⟨rfl, hr1, hg1⟩
  go_wp2
  go_ret
  exact ⟨rfl, hr1, by_trans (by_drewN (by_refl _ _) _) hg1⟩
set_option maxHeartbeats 1000000 in
set_option maxRecDepth 100000 in
theorem signed_at (n bits : Int)
    (HU : Hid (∀ W, Calls Try.prog 77 #[.slice A' n' c', .int .i64 bits] (w.drewN W) (QuietIs (w.drewN W) (.tuple #[.int .i64 n, .int .i64 (s : Int), .int .i64 (e1 : Int)])))) :
    Calls Try.prog 62 #[.pointer (some ⟨r, 0, none⟩), .int .i64 bits] w (RdIs w r (.slice A len c) p1 e2 (.int .i64 n)) := by
  obtain ⟨lt, c0, c1, c2, z1, z2⟩ := H.out
  go_enter Try.func62, Try.ntmps62
  go_wp2_with fail
  go_quiet ((go_at_call 77; exact Calls.quiet_of (HU.out _)))
  go_wp2_with fail
  refine (HP.out _ (H.out.drewN _)).mono ?_
  rintro en w1 ⟨rfl, hr1, hg1⟩
  go_wp2
  go_ret
  exact ⟨rfl, hr1, by_trans (by_drewN (by_refl _ _) _) hg1⟩
set_option maxHeartbeats 1000000 in
set_option maxRecDepth 100000 in
theorem block_at (n : Int)
    (HU : Hid (∀ (W : World), Below w.heap.size w W → Calls Try.prog 74 #[.slice A' n' c'] W (BlockIs W (.tuple #[.int .i64 n, .int .i64 (s : Int), .int .i64 (e1 : Int)])))) :
    Calls Try.prog 58 #[.pointer (some ⟨r, 0, none⟩)] w (RdIs w r (.slice A len c) p1 e2 (.int .i64 n)) := by
  obtain ⟨lt, c0, c1, c2, z1, z2⟩ := H.out
  go_enter Try.func58, Try.ntmps58
  go_wp2_with fail
  go_region_held3 (fun W => W.cell? ⟨r, 0, none⟩ = some (.slice A len c) ∧ W.cell? ⟨r, 1, none⟩ = some (.int .i64 (p : Int))) (first | exact ⟨c0, c1⟩ | exact ⟨(hbB.cell lt).trans c0, (hbB.cell lt).trans c1⟩) (first | (go_at_call 74; refine (HU.out _ (Below.refl _ _).drew).mono ?_; rintro en wB ⟨rfl, hbB⟩))
  all_goals
    have hb1 : Below w.heap.size w wB := (Below.refl _ _).drew.trans hbB
    have hR1 := H.out.keep hb1
    go_wp2_with fail
    refine (HP.out _ hR1).mono ?_
    rintro en w1 ⟨rfl, hr1, hg1⟩
    go_wp2
    go_ret
    exact ⟨rfl, hr1, by_trans (by_below hb1 _) hg1⟩
end
end Go.Proofs.Ytdipgokbfjbgfaa.Ins
namespace Go.Proofs.Ytdipgokbfjbgfaa.Ins
open Go.RowKit Leb Typ

theorem uRes_sz (l : List Nat) (n : Nat) : (uRes l n).2.1 ≤ l.length ∧ (uRes l n).2.2 ≤ 2 := by
  unfold uRes
  obtain ⟨v, s, e, hg, he, hs⟩ := gath_cases l (most n)
  rw [hg]
  simp only
  split
  · split
    · simp
    · rename_i h0 _
      have := hs h0
      exact ⟨this.2.2, by simp only; omega⟩
  · exact ⟨by simp, by simp only; omega⟩
theorem sRes_sz (l : List Nat) (n : Nat) : (sRes l n).2.1 ≤ l.length ∧ (sRes l n).2.2 ≤ 2 := by
  unfold sRes
  obtain ⟨v, s, e, hg, he, hs⟩ := gath_cases l (most n)
  rw [hg]
  simp only
  split
  · split
    · simp
    · rename_i h0 _
      have := hs h0
      exact ⟨this.2.2, by simp⟩
  · exact ⟨by simp, by simp only; omega⟩
theorem blockRes_sz (l : List Nat) : (blockRes l).2.1 ≤ l.length ∧ (blockRes l).2.2 ≤ 3 := by
  have h := sRes_sz l 33
  unfold blockRes
  by_cases h0 : l.length < 1
  · rw [if_pos h0]; simp
  rw [if_neg h0]
  by_cases h1 : l.getD 0 0 = 64
  · rw [if_pos h1]; simp only; omega
  rw [if_neg h1]
  by_cases h2 : (Typ.valOf (l.getD 0 0)).2 = 3
  · rw [if_pos h2]; simp
  rw [if_neg h2]
  by_cases h3 : (Typ.valOf (l.getD 0 0)).2 = 0
  · rw [if_pos h3]; simp only; omega
  rw [if_neg h3]
  by_cases h4 : (sRes l 33).2.2 ≠ 0
  · rw [if_pos h4]; simp only; omega
  rw [if_neg h4]
  by_cases h5 : (sRes l 33).1 < 0
  · rw [if_pos h5]; simp
  rw [if_neg h5]
  simp only
  exact ⟨h.1, by omega⟩
theorem uRes_low (l : List Nat) : (uRes l 32).1 < 4294967296 := by
  by_cases h : (uRes l 32).2.2 = 0
  · exact (uRes_32 l h).1
  · unfold uRes at h ⊢
    split
    · rename_i h1
      rw [if_pos h1] at h
      split
      · simp
      · rename_i h2
        rw [if_neg h2] at h
        exact absurd h1 h
    · simp
section
variable {w : World} {r : Nat} {A : Option Addr} {c p e : Nat} {l : List Nat}
theorem number_any (H : Rd w r (.slice A l.length c) p e) (hb : RdB w r A c l) (hp : p ≤ l.length) :
    Calls Try.prog 59 #[.pointer (some ⟨r, 0, none⟩)] w (RdIs w r (.slice A l.length c) (p + (uRes (l.drop p) 32).2.1) (fst2 e (uRes (l.drop p) 32).2.2) (.int .i64 ((uRes (l.drop p) 32).1 : Int))) := by
  obtain ⟨A', c', HS, hn', hr', hB⟩ := slice_at A l c p r w hb.bytes hb.nil hb.room hp
  have hsz := uRes_sz (l.drop p) 32
  have hdl : (l.drop p).length = l.length - p := by simp
  have hlt := uRes_low (l.drop p)
  have hm := hb.most
  have HP := Lib.hid (fun W (hW : Rd W r (.slice A l.length c) p e) => pass_any W r _ p e (uRes (l.drop p) 32).2.1 (uRes (l.drop p) 32).2.2 (by omega) hW)
  have hU := fun W => U_any A' (l.drop p) c' r 32 (w.drewN W) (hB w hb.bytes) (by omega) (by omega)
  rw [hdl] at hU
  exact number_at w r A A' l.length c (l.length - p) c' p e _ _ _ _ (Lib.hid H) HS HP _ (by omega) (Lib.hid hU)
theorem signed_any {bits : Nat} (h1 : 1 ≤ bits) (h64 : bits ≤ 64) (H : Rd w r (.slice A l.length c) p e) (hb : RdB w r A c l) (hp : p ≤ l.length) :
    Calls Try.prog 62 #[.pointer (some ⟨r, 0, none⟩), .int .i64 (bits : Int)] w (RdIs w r (.slice A l.length c) (p + (sRes (l.drop p) bits).2.1) (fst2 e (sRes (l.drop p) bits).2.2) (.int .i64 (sRes (l.drop p) bits).1)) := by
  obtain ⟨A', c', HS, hn', hr', hB⟩ := slice_at A l c p r w hb.bytes hb.nil hb.room hp
  have hsz := sRes_sz (l.drop p) bits
  have hdl : (l.drop p).length = l.length - p := by simp
  have hm := hb.most
  have HP := Lib.hid (fun W (hW : Rd W r (.slice A l.length c) p e) => pass_any W r _ p e (sRes (l.drop p) bits).2.1 (sRes (l.drop p) bits).2.2 (by omega) hW)
  have hU := fun W => S_any A' (l.drop p) c' r bits (w.drewN W) (hB w hb.bytes) h1 h64
  rw [hdl] at hU
  exact signed_at w r A A' l.length c (l.length - p) c' p e _ _ _ _ (Lib.hid H) HS HP _ _ (Lib.hid hU)
theorem block_any (H : Rd w r (.slice A l.length c) p e) (hb : RdB w r A c l) (hp : p ≤ l.length) :
    Calls Try.prog 58 #[.pointer (some ⟨r, 0, none⟩)] w (RdIs w r (.slice A l.length c) (p + (blockRes (l.drop p)).2.1) (fst2 e (blockRes (l.drop p)).2.2) (.int .i64 (blockRes (l.drop p)).1)) := by
  obtain ⟨A', c', HS, hn', hr', hB⟩ := slice_at A l c p r w hb.bytes hb.nil hb.room hp
  have hsz := blockRes_sz (l.drop p)
  have hdl : (l.drop p).length = l.length - p := by simp
  have hm := hb.most
  have HP := Lib.hid (fun W (hW : Rd W r (.slice A l.length c) p e) => pass_any W r _ p e (blockRes (l.drop p)).2.1 (blockRes (l.drop p)).2.2 (by omega) hW)
  have hU := fun W (hW : Below w.heap.size w W) => oblock_any A' (l.drop p) c' W ((((hB w hb.bytes).more (Nat.le_of_lt H.lt)).below hW).more hW.size)
  rw [hdl] at hU
  exact block_at w r A A' l.length c (l.length - p) c' p e _ _ _ _ (Lib.hid H) HS HP _ (Lib.hid hU)
end
section
variable (w : World) (r : Nat) (S : Value) (y n p1 e1 p2 e2 : Nat)
  (HB : Hid (Calls Try.prog 73 #[.pointer (some ⟨r, 0, none⟩)] w (RdIs w r S p1 e1 (.int .u8 (y : Int)))))
include HB
theorem code_plain (hy : ((y : Int) == 252) = false) (h256 : (y : Int) < 256) : Calls Try.prog 56 #[.pointer (some ⟨r, 0, none⟩)] w (RdIs w r S p1 e1 (.int .i64 (y : Int))) := by
  go_enter Try.func56, Try.ntmps56
  go_wp2_with fail
  refine HB.out.mono ?_
  rintro en w1 ⟨rfl, hr1, hg1⟩
  go_wp2
  go_ret
  exact ⟨rfl, hr1, hg1⟩
theorem code_more (hy : ((y : Int) == 252) = true) (hn : (n : Int) < 4294967296) (HN : Hid (∀ W, Rd W r S p1 e1 → w.grownBy W (some r) → Calls Try.prog 59 #[.pointer (some ⟨r, 0, none⟩)] W (RdIs W r S p2 e2 (.int .i64 (n : Int))))) : Calls Try.prog 56 #[.pointer (some ⟨r, 0, none⟩)] w (RdIs w r S p2 e2 (.int .i64 (256 + (n : Int)))) := by
  go_enter Try.func56, Try.ntmps56
  go_wp2_with fail
  refine HB.out.mono ?_
  rintro en w1 ⟨rfl, hr1, hg1⟩
  go_wp2_with fail
  refine (HN.out _ hr1 hg1).mono ?_
  rintro en w2 ⟨rfl, hr2, hg2⟩
  go_wp2
  go_ret
  exact ⟨rfl, hr2, by_trans hg1 hg2⟩
end
theorem getD_byte {l : List Nat} (h : ∀ x ∈ l, x < 256) (p : Nat) : l.getD p 0 < 256 := by
  by_cases hp : p < l.length
  · have : l.getD p 0 = l[p] := by simp [List.getD, List.getElem?_eq_getElem hp]
    rw [this]; exact h _ (List.getElem_mem _)
  · have : l.getD p 0 = 0 := by simp [List.getD, List.getElem?_eq_none (show l.length ≤ p by omega)]
    rw [this]; omega
theorem codeRes_sz (l : List Nat) : (codeRes l).2.1 ≤ l.length ∧ (codeRes l).2.2 ≤ 2 := by
  have h := uRes_sz (l.drop 1) 32
  have hd : (l.drop 1).length = l.length - 1 := by simp
  unfold codeRes
  by_cases h0 : l.length ≤ 0
  · rw [if_pos h0]; simp
  · rw [if_neg h0]
    split
    · simp only; omega
    · simp only; omega
theorem code_any {w : World} {r : Nat} {A : Option Addr} {c : Nat} {l : List Nat} (H : Rd w r (.slice A l.length c) 0 0) (hb : RdB w r A c l) :
    Calls Try.prog 56 #[.pointer (some ⟨r, 0, none⟩)] w (RdIs w r (.slice A l.length c) (codeRes l).2.1 (codeRes l).2.2 (.int .i64 (codeRes l).1)) := by
  have HB := byte_any H hb (Nat.zero_le _)
  unfold byteRes at HB
  unfold codeRes
  by_cases h0 : l.length ≤ 0
  · rw [if_pos h0] at HB ⊢
    exact code_plain w r _ 0 0 1 (Lib.hid HB) (by decide) (by decide)
  · rw [if_neg h0] at HB ⊢
    have hy := getD_byte hb.bytes.1 0
    by_cases h1 : l.getD 0 0 = 252
    · rw [if_pos h1]
      have hlt := uRes_low (l.drop 1)
      exact code_more w r _ _ _ 1 _ _ _ (Lib.hid HB) (by rw [h1]; decide) (by omega) (Lib.hid fun W hW hg => by
        have := number_any hW (hb.keep H.lt hg) (show 1 ≤ l.length by omega)
        exact this)
    · rw [if_neg h1]
      generalize l.getD 0 0 = y at *
      exact code_plain w r _ y 1 _ (Lib.hid HB) (by simp; omega) (by omega)
/-- What labels leaves. -/
def LabsAre (w : World) (r : Nat) (S : Value) (xs : List Int) (p e : Nat) (en : Ending) (w' : World) : Prop :=
  ∃ v, en = .returned v ∧ OwnI w' w.heap.size v xs ∧ Rd w' r S p e ∧ w.grownBy w' (some r)
theorem ownI_by {w w' : World} {base : Nat} {v : Value} {l : List Int} {r : Nat} (h : OwnI w base v l) (hg : w.grownBy w' (some r)) (hr : r < base) : OwnI w' base v l := by
  have hlt := h.lt
  refine ⟨h.1, ?_⟩
  rcases h.2 with ⟨rfl, h0⟩ | ⟨g, cap, cur, rfl, h1, h2, h3, h4, h5⟩
  · exact .inl ⟨rfl, h0⟩
  · exact .inr ⟨g, cap, cur, rfl, h1, (hg.block g (hlt g rfl) (by simp; omega)).trans h2, h3, h4, h5⟩
section
variable (w : World) (r : Nat) (S : Value) (n p1 e1 : Nat)
  (HN : Hid (Calls Try.prog 59 #[.pointer (some ⟨r, 0, none⟩)] w (RdIs w r S p1 e1 (.int .i64 (n : Int)))))
include HN
theorem labels_many (hn : (64 : Int) < (n : Int)) (HF : Hid (∀ W, Rd W r S p1 e1 → Calls Try.prog 57 #[.pointer (some ⟨r, 0, none⟩), .int .i64 4] W (RdIs W r S p1 (fst2 e1 4) (.tuple #[])))) : Calls Try.prog 60 #[.pointer (some ⟨r, 0, none⟩)] w (LabsAre w r S [] p1 (fst2 e1 4)) := by
  go_enter Try.func60, Try.ntmps60
  go_wp2_with fail
  refine HN.out.mono ?_
  rintro en w1 ⟨rfl, hr1, hg1⟩
  go_wp2_with fail
  refine (HF.out _ hr1).mono ?_
  rintro en w2 ⟨rfl, hr2, hg2⟩
  go_wp2
  go_ret
  exact ⟨_, rfl, OwnI.nil _ _, hr2, by_trans hg1 hg2⟩
set_option maxHeartbeats 2000000 in
set_option maxRecDepth 100000 in
theorem labels_run (l : List Nat) (hn : n ≤ 64) (hlt : r < w.heap.size) (R : List Int × Nat × Nat) (hR : labRun l n p1 e1 = R) (hp1 : p1 ≤ l.length)
    (HM : Hid (∀ W p e, Rd W r S p e → w.grownBy W (some r) → p ≤ l.length → Calls Try.prog 59 #[.pointer (some ⟨r, 0, none⟩)] W (RdIs W r S (p + (uRes (l.drop p) 32).2.1) (fst2 e (uRes (l.drop p) 32).2.2) (.int .i64 ((uRes (l.drop p) 32).1 : Int))))) :
    Calls Try.prog 60 #[.pointer (some ⟨r, 0, none⟩)] w (LabsAre w r S R.1 R.2.1 R.2.2) := by
  obtain ⟨i0, hi0, hz0, hz1, hz2⟩ := info_parts int_info
  have Hi := Lib.hid hz2
  have hni : ¬ (64 : Int) < (n : Int) := by omega
  have HRR : Hid (labRun l n p1 e1 = R) := Lib.hid hR
  have HRL := Lib.hid hlt
  have HP1 := Lib.hid hp1
  clear hR hz2 hlt hp1
  go_enter Try.func60, Try.ntmps60
  go_wp2_with fail
  refine HN.out.mono ?_
  rintro en w1 ⟨rfl, hr1, hg1⟩
  have hsz1 := hg1.size
  clear HN
  go_wp2_with (at_make; refine wpList_make_full _ rfl _ _ 23 rfl w.heap.size 3 i0 (.int .i64 0) 1 Try.underlying23 hi0 hz0 hz1 _ _ _ _ n rfl rfl rfl rfl (by rw [Hi.out]; omega) (by simp only [maxLen]; omega) hsz1 ?_; intro w2 hown2 hgrow2)
  have hg2 : w.grownBy w2 (some r) := by_trans hg1 ⟨hgrow2.os, hgrow2.tape, hgrow2.output, hgrow2.size, fun k hk _ => hgrow2.block k hk (by simp)⟩
  have hr2 : Rd w2 r S p1 e1 := hr1.step hgrow2.size (hgrow2.block r hr1.lt (by simp))
  have hO : OwnI w2 w.heap.size (.slice (some ⟨w1.heap.size, 0, none⟩) n n) (partI n []) := by
    unfold OwnI
    rw [partI_len n [] (Nat.zero_le _), ← made_i64]
    simpa using hown2
  clear hown2 hgrow2 hg1 hr1
  generalize w1.heap.size = g at *
  go_loopw [16] (fun x wr => ∃ (j : Nat) (xs : List Int) (p e : Nat), j ≤ n ∧ xs.length = j ∧ x = .int .i64 (j : Int) ∧ OwnI wr w.heap.size (.slice (some ⟨g, 0, none⟩) n n) (partI n xs) ∧ Rd wr r S p e ∧ w.grownBy wr (some r) ∧ Hid (p ≤ l.length ∧ R = (xs ++ (labRun l (n - j) p e).1, (labRun l (n - j) p e).2))) (fun i _ => n - (intOf i).toNat)
  case atStart => exact ⟨0, [], p1, e1, Nat.zero_le _, rfl, rfl, hO, hr2, hg2, Lib.hid ⟨HP1.out, by rw [← HRR.out]; rfl⟩⟩
  case round =>
    obtain ⟨j, xs, p, e, hj, hx, rfl, hown, hrd, hgr, HJ⟩ := hrel
    clear hg2 hr2 hO
    have hn64 : n ≤ 64 := by omega
    by_cases hju : j < n
    · have hjui : (j : Int) < (n : Int) := by omega
      obtain ⟨hpl, hJ⟩ := HJ.out
      have hm := HM.out wr p e hrd hgr hpl
      have hsz := uRes_sz (l.drop p) 32
      have hdl : (l.drop p).length = l.length - p := by simp
      rw [show n - j = (n - (j + 1)) + 1 from by omega] at hJ
      simp only [labRun] at hJ
      have HPL : Hid (p + (uRes (l.drop p) 32).2.1 ≤ l.length) := Lib.hid (by omega)
      clear hsz hdl hpl HJ
      generalize (uRes (l.drop p) 32).1 = u at *
      generalize p + (uRes (l.drop p) 32).2.1 = p' at *
      generalize fst2 e (uRes (l.drop p) 32).2.2 = e' at *
      have HJ2 : Hid (R = (xs ++ [(u : Int)] ++ (labRun l (n - (j + 1)) p' e').1, (labRun l (n - (j + 1)) p' e').2)) := Lib.hid (by rw [hJ]; simp)
      have HM1 := Lib.hid hm
      clear hJ hm
      go_wp2_with fail
      refine HM1.out.mono ?_
      rintro en w3 ⟨rfl, hr3, hg3⟩
      have hg4 := by_trans hgr hg3
      have hown3 : OwnI w3 w.heap.size (.slice (some ⟨g, 0, none⟩) n n) (partI n xs) := ownI_by hown hg3 HRL.out
      have ho2 : w3.ownsRow w.heap.size 3 1 (.slice (some ⟨g, 0, none⟩) n n) n ((partI n xs).map iv) := by
        have := hown3
        unfold OwnI at this
        rw [partI_len n xs (by omega)] at this
        exact this
      have hc := ho2.cellAt j (by omega)
      have hf := ho2.frozenAt j
      have hvv : ∃ v, w3.cell? ⟨g, j, none⟩ = some v := ⟨_, hc.trans (List.getElem?_eq_getElem (by rw [List.length_map, partI_len n xs (by omega)]; exact hju))⟩
      obtain ⟨v0, hv0'⟩ := hvv
      obtain ⟨hs1, hs2⟩ := ho2.stored j (iv (u : Int))
      have hset : ((partI n xs).map iv).set j (iv (u : Int)) = (partI n (xs ++ [(u : Int)])).map iv := by rw [← List.map_set]; congr 1; have := partI_set n xs (u : Int) (by omega); rw [hx] at this; exact this
      rw [hset] at hs1
      have HO : Hid (OwnI (w3.setCell ⟨g, j, none⟩ (iv (u : Int))) w.heap.size (.slice (some ⟨g, 0, none⟩) n n) (partI n (xs ++ [(u : Int)]))) := Lib.hid (by
        unfold OwnI
        rw [partI_len n _ (by simp; omega)]
        exact hs1)
      have hgb : w.heap.size ≤ g := (World.ownsRow.lt ho2 g rfl).1
      have HR5 : Hid (Rd (w3.setCell ⟨g, j, none⟩ (iv (u : Int))) r S p' e') := Lib.hid (hr3.step (by simp) (Below.heap_setCell _ _ _ _ (by have := HRL.out; simp; omega)))
      have HG5 : Hid (w.grownBy (w3.setCell ⟨g, j, none⟩ (iv (u : Int))) (some r)) := Lib.hid ⟨hg4.os, hg4.tape, hg4.output, by simpa using hg4.size, fun k hk hne => (Below.heap_setCell _ _ _ _ (by simp; omega)).trans (hg4.block k hk hne)⟩
      clear hown hrd hgr hr3 hg3 hg4 hown3 ho2 hc hs1 hs2 hset HM1
      go_wp2
      go_roundw
      case rel => exact ⟨j + 1, xs ++ [(u : Int)], p', e', by omega, by simp [hx], by go_num, HO.out, HR5.out, HG5.out, Lib.hid ⟨HPL.out, HJ2.out⟩⟩
      case measure => simp [intOf]; omega
    · obtain rfl : j = n := by omega
      have hjui : ¬ (j : Int) < (j : Int) := by omega
      have hJ := HJ.out.2
      rw [Nat.sub_self] at hJ
      simp only [labRun, List.append_nil] at hJ
      have HE := Lib.hid hJ
      have hown' : OwnI wr w.heap.size (.slice (some ⟨g, 0, none⟩) j j) xs := by
        have := hown
        rw [show partI j xs = xs from by rw [← hx]; exact partI_end xs] at this
        exact this
      have HO := Lib.hid hown'
      clear hJ HJ hown hown'
      go_wp2
      go_ret
      rw [HE.out]
      exact ⟨_, rfl, HO.out, hrd, hgr⟩
end
theorem labRun_sz (l : List Nat) (n p e : Nat) (hp : p ≤ l.length) : (labRun l n p e).2.1 ≤ l.length := by
  induction n generalizing p e with
  | zero => exact hp
  | succ n ih =>
    simp only [labRun]
    have hsz := uRes_sz (l.drop p) 32
    have hdl : (l.drop p).length = l.length - p := by simp
    exact ih _ _ (by omega)
theorem labsRes_sz (l : List Nat) (p e : Nat) (hp : p ≤ l.length) : (labsRes l p e).2.1 ≤ l.length := by
  have hsz := uRes_sz (l.drop p) 32
  have hdl : (l.drop p).length = l.length - p := by simp
  unfold labsRes
  split
  · simp only; omega
  · exact labRun_sz _ _ _ _ (by omega)
theorem labels_any {w : World} {r : Nat} {A : Option Addr} {c p e : Nat} {l : List Nat} (H : Rd w r (.slice A l.length c) p e) (hb : RdB w r A c l) (hp : p ≤ l.length) :
    Calls Try.prog 60 #[.pointer (some ⟨r, 0, none⟩)] w (LabsAre w r (.slice A l.length c) (labsRes l p e).1 (labsRes l p e).2.1 (labsRes l p e).2.2) := by
  have hsz := uRes_sz (l.drop p) 32
  have hdl : (l.drop p).length = l.length - p := by simp
  have HN := Lib.hid (number_any H hb hp)
  unfold labsRes
  by_cases h : 64 < (uRes (l.drop p) 32).1
  · rw [if_pos h]
    exact labels_many w r _ _ _ _ HN (by omega) (Lib.hid fun W hW => fail_any W r _ _ _ 4 hW)
  · rw [if_neg h]
    exact labels_run w r _ _ _ _ HN l (by omega) H.lt _ rfl (by omega) (Lib.hid fun W p e hW hg hp => number_any hW (hb.keep H.lt hg) hp)
end Go.Proofs.Ytdipgokbfjbgfaa.Ins
