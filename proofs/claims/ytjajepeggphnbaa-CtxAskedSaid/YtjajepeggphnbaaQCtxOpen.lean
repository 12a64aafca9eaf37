/-
  CtxOpen: A context, and a list of instructions, that came in. Conditions as each lemma says.
-/
import Derived.Test.YtjajepeggphnbaaQCtxRep
import Derived.Test.YtjajepeggphnbaaQModOpen
namespace Go.Proofs.Ytjajepeggphnbaa.Cx
open _root_.Go.Proofs.Ytjajepeggphnbaa.Mod
open _root_.Go.Proofs.Ytjajepeggphnbaa.Opn
open Go.RowKit Leb Go.Joins Go.ChangeShapes Go.WideShapes Go.Deep

def ctxR : Rep GCtx := mapR (fun c : GCtx => (c.types, c.funcs, c.globs, c.tabs, c.mems, c.hosts, c.vars, c.els, c.dats, c.counted)) (seqR (lstR ftR) (seqR (lstR intR) (seqR (lstR varR) (seqR (lstR limR) (seqR (lstR limR) (seqR intR (seqR intR (seqR intR (seqR intR boolR)))))))))
theorem ctxR_at {w : World} {ok : Nat → Prop} {vs : List Value} {c : GCtx} (h : ctxR.at_ w ok vs c) : ∃ p : Plc, vs = p.vals c ∧ CtxL w ok p c := by
  obtain ⟨u0, v0, rfl, ⟨A0, c0, rfl, h0⟩, u1, v1, rfl, ⟨A1, c1, rfl, h1⟩, u2, v2, rfl, ⟨A2, c2, rfl, h2⟩, u3, v3, rfl, ⟨A3, c3, rfl, h3⟩, u4, v4, rfl, ⟨A4, c4, rfl, h4⟩, u5, v5, rfl, h5, u6, v6, rfl, h6, u7, v7, rfl, h7, u8, v8, rfl, h8, h9⟩ := h
  obtain rfl : u5 = [.int .i64 c.hosts] := h5
  obtain rfl : u6 = [.int .i64 c.vars] := h6
  obtain rfl : u7 = [.int .i64 c.els] := h7
  obtain rfl : u8 = [.int .i64 c.dats] := h8
  obtain rfl : v8 = [.bool c.counted] := h9
  exact ⟨⟨A0, A1, A2, A3, A4, c0, c1, c2, c3, c4⟩, rfl, h0, h1, h2, h3, h4⟩
section
variable {H : Type} {enc : TypeId × Value → H} {w : World} {base : Nat} {held : Bool}
set_option maxRecDepth 100000 in
theorem reads_var : ReadsT enc w base held 83 varR (fun _ => True) := by
  have h := reads_struct (enc := enc) (w := w) (base := base) (held := held) (R := varR) Try.underlying83 (by kernel_rfl) (readsF_cons (reads_int Try.underlying3) rfl (by kernel_rfl) (readsF_one (reads_bool Try.underlying4) rfl (by kernel_rfl)))
  exact fun n cs y hy => by obtain ⟨x, h1, _⟩ := h n cs y hy; exact ⟨x, h1, trivial⟩
set_option maxRecDepth 100000 in
theorem reads_ctx : ReadsT enc w base held 38 ctxR (fun _ => True) := by
  refine reads_map (α := List GFt × List Int × List GVar × List GLim × List GLim × Int × Int × Int × Int × Bool) _ (fun q => ⟨q.1, q.2.1, q.2.2.1, q.2.2.2.1, q.2.2.2.2.1, q.2.2.2.2.2.1, q.2.2.2.2.2.2.1, q.2.2.2.2.2.2.2.1, q.2.2.2.2.2.2.2.2.1, q.2.2.2.2.2.2.2.2.2⟩)
    (reads_struct Try.underlying38 (by kernel_rfl) (readsF_cons (reads_slice Try.underlying22 (by kernel_rfl) reads_ft) rfl (by kernel_rfl) (readsF_cons (reads_ints Try.underlying28) rfl (by kernel_rfl) (readsF_cons (reads_slice Try.underlying36 (by kernel_rfl) reads_var) rfl (by kernel_rfl) (readsF_cons (reads_slice Try.underlying25 (by kernel_rfl) reads_lim) rfl (by kernel_rfl) (readsF_cons (reads_slice Try.underlying25 (by kernel_rfl) reads_lim) rfl (by kernel_rfl) (readsF_cons (reads_int Try.underlying3) rfl (by kernel_rfl) (readsF_cons (reads_int Try.underlying3) rfl (by kernel_rfl) (readsF_cons (reads_int Try.underlying3) rfl (by kernel_rfl) (readsF_cons (reads_int Try.underlying3) rfl (by kernel_rfl) (readsF_one (reads_bool Try.underlying4) rfl (by kernel_rfl)))))))))))) (fun _ => rfl) (fun _ _ => trivial)
def CtxIn (w : World) (v : Value) : Prop := ∃ (p : Plc) (c : GCtx), v = .agg (p.vals c).toArray ∧ CtxL w (fun b => b < w.heap.size) p c
variable {r : Reach} {b0 : Nat} {v : Value} {d : DataW H} {pl : List MemPlace}
set_option maxRecDepth 100000 in
theorem ctxIn_of (hv : Value.okWide Try.prog w r b0 38 v) (h : DataW.Trod enc Try.prog w base (fun _ => true) held 38 v d pl) : CtxIn w v := by
  obtain ⟨cs, rfl, hsz⟩ := okWide_struct Try.underlying38 hv
  obtain ⟨fuel, hf⟩ := h
  obtain ⟨c, h1, _⟩ := reads_ctx _ _ _ hf
  obtain ⟨p, h3, h4⟩ := ctxR_at h1
  refine ⟨p, c, ?_, h4⟩
  simp only [Value.cells] at h3
  rw [← h3]
def InsL (w : World) (v : Value) : Prop := ∃ (A : Option Addr) (c : Nat) (xs : List Ins.Ins), v = .slice A xs.length c ∧ Lst insR w (fun b => b < w.heap.size) A c xs
set_option maxRecDepth 100000 in
theorem insL_of (hv : Value.okWide Try.prog w r b0 45 v) (h : DataW.Trod enc Try.prog w base (fun _ => true) held 45 v d pl) : InsL w v := by
  obtain ⟨A, n, c, rfl⟩ := okWide_slice Try.underlying45 hv
  obtain ⟨fuel, hf⟩ := h
  obtain ⟨xs, ⟨A', c', e, h1⟩, _⟩ := reads_body _ _ _ hf
  have e2 : (Value.slice A n c) = .slice A' xs.length c' := by simpa [Value.cells] using e
  exact ⟨A', c', xs, e2, h1⟩
end
end Go.Proofs.Ytjajepeggphnbaa.Cx
