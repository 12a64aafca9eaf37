/-
  instr's reader in memory; its methods fail, pass, byte, zero: what each comes to. Conditions: the reader's cells, the bytes that it leads to.
-/
import Derived.Test.YtdipgokbfjbgfaaInsRdMath
import Derived.BigQuiet
namespace Go.Proofs.Ytdipgokbfjbgfaa.Ins
open Go.RowKit Leb Typ

/-- A reader in block r: its slice, its place, its error. -/
structure Rd (w : World) (r : Nat) (S : Value) (p e : Nat) : Prop where
  lt : r < w.heap.size
  c0 : w.cell? ⟨r, 0, none⟩ = some S
  c1 : w.cell? ⟨r, 1, none⟩ = some (.int .i64 (p : Int))
  c2 : w.cell? ⟨r, 2, none⟩ = some (.int .i64 (e : Int))
  z1 : w.frozen? ⟨r, 1, none⟩ = false
  z2 : w.frozen? ⟨r, 2, none⟩ = false
theorem Rd.step {w w' : World} {r : Nat} {S : Value} {p e : Nat} (h : Rd w r S p e) (hs : w.heap.size ≤ w'.heap.size) (hh : w'.heap[r]? = w.heap[r]?) : Rd w' r S p e := by
  have C : ∀ q : Addr, q.block = r → w'.cell? q = w.cell? q := fun q hq => World.cell?_of_block (by rw [hq]; exact hh)
  have F : ∀ q : Addr, q.block = r → w'.frozen? q = w.frozen? q := fun q hq => World.frozen?_of_block (by rw [hq]; exact hh)
  exact ⟨Nat.lt_of_lt_of_le h.lt hs, (C _ rfl).trans h.c0, (C _ rfl).trans h.c1, (C _ rfl).trans h.c2, (F _ rfl).trans h.z1, (F _ rfl).trans h.z2⟩
theorem Rd.keep {w w' : World} {r : Nat} {S : Value} {p e : Nat} (h : Rd w r S p e) (hb : Below w.heap.size w w') : Rd w' r S p e := h.step hb.size (hb.block _ h.lt)
theorem Rd.setE {w : World} {r : Nat} {S : Value} {p e : Nat} (h : Rd w r S p e) (e' : Nat) : Rd (w.setCell ⟨r, 2, none⟩ (.int .i64 (e' : Int))) r S p e' :=
  ⟨by simpa using h.lt, (World.cell?_setCell_other _ _ _ _ (by simp)).trans h.c0, (World.cell?_setCell_other _ _ _ _ (by simp)).trans h.c1, World.cell?_setCell_same _ _ _ h.c2, by simpa using h.z1, by simpa using h.z2⟩
theorem Rd.setP {w : World} {r : Nat} {S : Value} {p e : Nat} (h : Rd w r S p e) (p' : Nat) : Rd (w.setCell ⟨r, 1, none⟩ (.int .i64 (p' : Int))) r S p' e :=
  ⟨by simpa using h.lt, (World.cell?_setCell_other _ _ _ _ (by simp)).trans h.c0, World.cell?_setCell_same _ _ _ h.c1, (World.cell?_setCell_other _ _ _ _ (by simp)).trans h.c2, by simpa using h.z1, by simpa using h.z2⟩
theorem by_set (w : World) (r i : Nat) (u : Value) : w.grownBy (w.setCell ⟨r, i, none⟩ u) (some r) :=
  ⟨rfl, rfl, rfl, by simp, fun k _ hne => Below.heap_setCell _ _ _ _ (fun e => hne (by rw [e]))⟩
theorem by_refl (w : World) (o : Option Nat) : w.grownBy w o := ⟨rfl, rfl, rfl, Nat.le_refl _, fun _ _ _ => rfl⟩
theorem by_below {w w' : World} (h : Below w.heap.size w w') (o : Option Nat) : w.grownBy w' o := ⟨h.os, h.tape, h.output, h.size, fun k hk _ => h.block k hk⟩
theorem by_trans {a b c : World} {o : Option Nat} (h : a.grownBy b o) (k : b.grownBy c o) : a.grownBy c o :=
  ⟨k.os.trans h.os, k.tape.trans h.tape, k.output.trans h.output, Nat.le_trans h.size k.size, fun i hi hn => (k.block i (Nat.lt_of_lt_of_le hi h.size) hn).trans (h.block i hi hn)⟩
theorem by_drewN {a b : World} {o : Option Nat} (h : a.grownBy b o) (n : Nat) : a.grownBy (b.drewN n) o := by_trans h (by_below (below_drewN (Below.refl _ _) n) o)
theorem Rd.drewN {w : World} {r : Nat} {S : Value} {p e : Nat} (h : Rd w r S p e) (n : Nat) : Rd (w.drewN n) r S p e := h.keep (below_drewN (Below.refl _ _) n)
/-- What a method leaves. -/
def RdIs (w : World) (r : Nat) (S : Value) (p e : Nat) (v : Value) (en : Ending) (w' : World) : Prop := en = .returned v ∧ Rd w' r S p e ∧ w.grownBy w' (some r)
section
variable (w : World) (r : Nat) (S : Value) (p e : Nat)
theorem fail_0 (e' : Nat) (H : Hid (Rd w r S p 0)) : Calls Try.prog 57 #[.pointer (some ⟨r, 0, none⟩), .int .i64 (e' : Int)] w (RdIs w r S p e' (.tuple #[])) := by
  obtain ⟨lt, c0, c1, c2, z1, z2⟩ := H.out
  go_enter Try.func57, Try.ntmps57
  go_wp2
  refine bodyPost_end (v := .tuple #[]) (by simp [results, Try.results57, go_sem]) rfl ?_
  exact ⟨rfl, H.out.setE e', by_set _ _ _ _⟩
theorem fail_n (e' : Nat) (he : ((e : Int) == 0) = false) (H : Hid (Rd w r S p e)) : Calls Try.prog 57 #[.pointer (some ⟨r, 0, none⟩), .int .i64 (e' : Int)] w (RdIs w r S p e (.tuple #[])) := by
  obtain ⟨lt, c0, c1, c2, z1, z2⟩ := H.out
  go_enter Try.func57, Try.ntmps57
  go_wp2
  refine bodyPost_end (v := .tuple #[]) (by simp [results, Try.results57, go_sem]) rfl ?_
  exact ⟨rfl, H.out, by_refl _ _⟩
theorem fail_any (e' : Nat) (H : Rd w r S p e) : Calls Try.prog 57 #[.pointer (some ⟨r, 0, none⟩), .int .i64 (e' : Int)] w (RdIs w r S p (fst2 e e') (.tuple #[])) := by
  by_cases he : e = 0
  · subst he; exact fail_0 w r S p e' (Lib.hid H)
  · rw [fst2_n he]; exact fail_n w r S p e e' (by simp; omega) (Lib.hid H)
theorem pass_any (n e' : Nat) (hn : p + n ≤ 20000000) (H : Rd w r S p e) : Calls Try.prog 75 #[.pointer (some ⟨r, 0, none⟩), .int .i64 (n : Int), .int .i64 (e' : Int)] w (RdIs w r S (p + n) (fst2 e e') (.tuple #[])) := by
  obtain ⟨lt, c0, c1, c2, z1, z2⟩ := H
  have hw : wrap64 ((p : Int) + (n : Int)) = ((p + n : Nat) : Int) := by rw [IntWalk.wrap64_in _ (by omega)]; omega
  have HF : Hid (Calls Try.prog 57 #[.pointer (some ⟨r, 0, none⟩), .int .i64 (e' : Int)] (w.setCell ⟨r, 1, none⟩ (.int .i64 ((p + n : Nat) : Int))) (RdIs (w.setCell ⟨r, 1, none⟩ (.int .i64 ((p + n : Nat) : Int))) r S (p + n) (fst2 e e') (.tuple #[]))) := Lib.hid (fail_any _ r S (p + n) e e' (Rd.setP ⟨lt, c0, c1, c2, z1, z2⟩ _))
  generalize p + n = m at *
  clear hn
  go_enter Try.func75, Try.ntmps75
  go_wp2_with fail
  refine HF.out.mono ?_
  rintro en w1 ⟨rfl, hr1, hg1⟩
  go_wp2
  refine bodyPost_end (v := .tuple #[]) (by simp [results, Try.results75, go_sem]) rfl ?_
  exact ⟨rfl, hr1, by_trans (by_set _ _ _ _) hg1⟩
variable (A : Option Addr) (len c : Nat)
theorem byte_end (H : Hid (Rd w r (.slice A p c) p e)) (HF : Hid (∀ W, Rd W r (.slice A p c) p e → Calls Try.prog 57 #[.pointer (some ⟨r, 0, none⟩), .int .i64 1] W (RdIs W r (.slice A p c) p (fst2 e 1) (.tuple #[])))) : Calls Try.prog 73 #[.pointer (some ⟨r, 0, none⟩)] w (RdIs w r (.slice A p c) p (fst2 e 1) (.int .u8 0)) := by
  obtain ⟨lt, c0, c1, c2, z1, z2⟩ := H.out
  go_enter Try.func73, Try.ntmps73
  go_wp2_with fail
  go_quiet (fail)
  go_wp2_with fail
  refine (HF.out _ (H.out.drewN _)).mono ?_
  rintro en w1 ⟨rfl, hr1, hg1⟩
  go_wp2
  go_ret
  exact ⟨rfl, hr1, by_trans (by_drewN (by_refl _ _) _) hg1⟩
set_option maxHeartbeats 1000000 in
theorem byte_in (b off q y : Nat) (hq : p + 1 = q) (hp : p < len) (hl : len ≤ 10000000) (hrb : b ≠ r) (hy : w.cell? ⟨b, off + p, none⟩ = some (.int .u8 (y : Int))) (H : Hid (Rd w r (.slice (some ⟨b, off, none⟩) len c) p e)) : Calls Try.prog 73 #[.pointer (some ⟨r, 0, none⟩)] w (RdIs w r (.slice (some ⟨b, off, none⟩) len c) q e (.int .u8 (y : Int))) := by
  obtain ⟨lt, c0, c1, c2, z1, z2⟩ := H.out
  have hne : ((p : Int) == (len : Int)) = false := by simp; omega
  have hw : wrap64 ((p : Int) + 1) = (q : Int) := by rw [IntWalk.wrap64_in _ (by omega)]; omega
  have hw2 : wrap64 ((q : Int) - 1) = (p : Int) := by rw [IntWalk.wrap64_in _ (by omega)]; omega
  have hpi : (p : Int) < (len : Int) := by omega
  have HS : Hid (∀ n, Rd ((w.drewN n).setCell ⟨r, 1, none⟩ (.int .i64 (q : Int))) r (.slice (some ⟨b, off, none⟩) len c) q e ∧ ((w.drewN n).setCell ⟨r, 1, none⟩ (.int .i64 (q : Int))).cell? ⟨b, off + p, none⟩ = some (.int .u8 (y : Int)) ∧ w.grownBy ((w.drewN n).setCell ⟨r, 1, none⟩ (.int .i64 (q : Int))) (some r)) := Lib.hid fun n =>
    ⟨(H.out.drewN n).setP q, (World.cell?_setCell_other _ _ _ _ (by simp)).trans hy, by_trans (by_drewN (by_refl _ _) n) (by_set _ _ _ _)⟩
  clear hq hl hp
  go_enter Try.func73, Try.ntmps73
  go_wp2_with fail
  go_quiet (fail)
  go_wp2_with fail
  obtain ⟨hR, hc, hg⟩ := HS.out nq
  clear HS hw c0 c1 c2 z1 z2 hy H lt hne
  generalize (w.drewN nq).setCell _ _ = W at *
  have HR := Lib.hid hR
  obtain ⟨lt, c0, c1, c2, z1, z2⟩ := hR
  go_quiet (fail)
  go_wp2
  go_ret
  exact ⟨rfl, HR.out.drewN _, by_drewN hg _⟩
end
section
variable {w : World} {r : Nat} {A : Option Addr} {c p e : Nat} {l : List Nat}
/-- The bytes that a reader leads to lie ahead of it. -/
structure RdB (w : World) (r : Nat) (A : Option Addr) (c : Nat) (l : List Nat) : Prop where
  bytes : Bytes w r A l
  nil : A = none → c = 0
  room : l.length ≤ c
  most : l.length ≤ 10000000
theorem RdB.keep {w w' : World} {r : Nat} {A : Option Addr} {c : Nat} {l : List Nat} (h : RdB w r A c l) (hlt : r < w.heap.size) (hg : w.grownBy w' (some r)) : RdB w' r A c l := by
  refine ⟨⟨h.bytes.1, fun h0 => ?_⟩, h.nil, h.room, h.most⟩
  obtain ⟨b, off, e, hb, hc⟩ := h.bytes.2 h0
  refine ⟨b, off, e, hb, fun j hj => ?_⟩
  rw [World.cell?_of_block (hg.block b (by omega) (by simp; omega))]
  exact hc j hj
theorem byte_any (H : Rd w r (.slice A l.length c) p e) (hb : RdB w r A c l) (hp : p ≤ l.length) :
    Calls Try.prog 73 #[.pointer (some ⟨r, 0, none⟩)] w (RdIs w r (.slice A l.length c) (byteRes l p).2.1 (fst2 e (byteRes l p).2.2) (.int .u8 ((byteRes l p).1 : Int))) := by
  unfold byteRes
  by_cases h : l.length ≤ p
  · rw [if_pos h]
    obtain rfl : p = l.length := by omega
    exact byte_end w r l.length e A c (Lib.hid H) (Lib.hid fun W HW => fail_any W r _ _ e 1 HW)
  · rw [if_neg h]
    simp only [fst2_0]
    obtain ⟨b, off, rfl, hlt, hc⟩ := hb.bytes.2 (by omega)
    have hg : l.getD p 0 = l[p]'(by omega) := by simp [List.getD, List.getElem?_eq_getElem (show p < l.length by omega)]
    rw [hg]
    exact byte_in w r p e l.length c b off (p + 1) _ rfl (by omega) hb.most (by omega) (hc p (by omega)) (Lib.hid H)
end
section
variable (w : World) (r : Nat) (S : Value) (p e y p1 e1 : Nat)
theorem zero_0 (HB : Hid (Calls Try.prog 73 #[.pointer (some ⟨r, 0, none⟩)] w (RdIs w r S p1 e1 (.int .u8 0)))) : Calls Try.prog 61 #[.pointer (some ⟨r, 0, none⟩)] w (RdIs w r S p1 e1 (.tuple #[])) := by
  go_enter Try.func61, Try.ntmps61
  go_wp2_with fail
  refine HB.out.mono ?_
  rintro en w1 ⟨rfl, hr1, hg1⟩
  go_wp2
  refine bodyPost_end (v := .tuple #[]) (by simp [results, Try.results61, go_sem]) rfl ?_
  exact ⟨rfl, hr1, hg1⟩
theorem zero_n (hy : ((y : Int) != 0) = true) (HB : Hid (Calls Try.prog 73 #[.pointer (some ⟨r, 0, none⟩)] w (RdIs w r S p1 e1 (.int .u8 (y : Int))))) (HF : Hid (∀ W, Rd W r S p1 e1 → Calls Try.prog 57 #[.pointer (some ⟨r, 0, none⟩), .int .i64 2] W (RdIs W r S p1 (fst2 e1 2) (.tuple #[])))) : Calls Try.prog 61 #[.pointer (some ⟨r, 0, none⟩)] w (RdIs w r S p1 (fst2 e1 2) (.tuple #[])) := by
  go_enter Try.func61, Try.ntmps61
  go_wp2_with fail
  refine HB.out.mono ?_
  rintro en w1 ⟨rfl, hr1, hg1⟩
  go_wp2_with fail
  refine (HF.out _ hr1).mono ?_
  rintro en w2 ⟨rfl, hr2, hg2⟩
  go_wp2
  refine bodyPost_end (v := .tuple #[]) (by simp [results, Try.results61, go_sem]) rfl ?_
  exact ⟨rfl, hr2, by_trans hg1 hg2⟩
end
theorem rzero_any {w : World} {r : Nat} {A : Option Addr} {c p e : Nat} {l : List Nat} (H : Rd w r (.slice A l.length c) p e) (hb : RdB w r A c l) (hp : p ≤ l.length) :
    Calls Try.prog 61 #[.pointer (some ⟨r, 0, none⟩)] w (RdIs w r (.slice A l.length c) (zeroRes l p e).1 (zeroRes l p e).2 (.tuple #[])) := by
  have HB := Lib.hid (byte_any H hb hp)
  unfold zeroRes
  generalize byteRes l p = g at *
  obtain ⟨y, p1, e1⟩ := g
  simp only at HB ⊢
  by_cases h : y = 0
  · subst h
    rw [if_neg (by simp), fst2_0]
    exact zero_0 w r _ p1 _ HB
  · rw [if_pos h]
    exact zero_n w r _ y p1 _ (by simp; omega) HB (Lib.hid fun W HW => fail_any W r _ _ _ 2 HW)
end Go.Proofs.Ytdipgokbfjbgfaa.Ins
