/-
  ModSm: Things in memory as they lie in any later world; the loops of a function. No condition; nothing of the program.
-/
import Derived.Test.YtdcolpmmojiffaaQModMdR
namespace Go.Proofs.Ytdcolpmmojiffaa.Mod
open Go.RowKit Leb

theorem sm_any {α : Type} {R : Rep α} {w1 : World} {ok : Nat → Prop} {A : Option Addr} {c : Nat} {xs : List α} (h : Lst R w1 ok A c xs) (j : Nat) (hj : j < xs.length) :
    ∃ b off us, A = some ⟨b, off, none⟩ ∧ b < w1.heap.size ∧ R.at_ w1 ok us xs[j] ∧ ∀ (i : Nat) (hi : i < us.length), w1.cell? ⟨b, off + (j * R.k + i), none⟩ = some us[i] := by
  obtain ⟨b, off, e, _, h1⟩ := h.row (by omega)
  obtain ⟨us, h2, h3⟩ := h1 j hj
  refine ⟨b, off, us, e, ?_, h2, h3⟩
  exact cell_lt (h3 0 (by rw [R.len h2]; exact R.pos))
theorem sm_ft {w1 : World} {ok : Nat → Prop} {A : Option Addr} {c : Nat} {xs : List GFt} (h : Lst ftR w1 ok A c xs) (j : Nat) (hj : j < xs.length) :
    ∃ b off A1 c1 A2 c2, A = some ⟨b, off, none⟩ ∧ ∀ V, Below w1.heap.size w1 V → V.cell? ⟨b, off + j * 2, none⟩ = some (.slice A1 xs[j].1.length c1) ∧ V.cell? ⟨b, off + j * 2 + 1, none⟩ = some (.slice A2 xs[j].2.length c2) ∧ Lst intR V ok A1 c1 xs[j].1 ∧ Lst intR V ok A2 c2 xs[j].2 := by
  obtain ⟨b, off, us, rfl, hb, h1, h2⟩ := sm_any h j hj
  obtain ⟨A1, c1, A2, c2, rfl, i1, i2⟩ := ftR_at.1 h1
  refine ⟨b, off, A1, c1, A2, c2, rfl, fun V hV => ⟨?_, ?_, i1.keep fun q hq hl => ⟨hV.block q hl, hq⟩, i2.keep fun q hq hl => ⟨hV.block q hl, hq⟩⟩⟩
  · exact (hV.cell hb).trans (h2 0 (by simp))
  · exact (hV.cell hb).trans (h2 1 (by simp))
theorem sm_imp {w1 : World} {ok : Nat → Prop} {A : Option Addr} {c : Nat} {xs : List GImp} (h : Lst impR w1 ok A c xs) (j : Nat) (hj : j < xs.length) :
    ∃ b off, A = some ⟨b, off, none⟩ ∧ ∀ V, Below w1.heap.size w1 V → V.cell? ⟨b, off + j * 8, none⟩ = some (.string xs[j].md) ∧ V.cell? ⟨b, off + j * 8 + 1, none⟩ = some (.string xs[j].nm) ∧ V.cell? ⟨b, off + j * 8 + 2, none⟩ = some (.int .i64 xs[j].kind) ∧ V.cell? ⟨b, off + j * 8 + 3, none⟩ = some (.int .i64 xs[j].ty) ∧ V.cell? ⟨b, off + j * 8 + 4, none⟩ = some (.int .i64 xs[j].lim.1) ∧ V.cell? ⟨b, off + j * 8 + 5, none⟩ = some (.bool xs[j].lim.2.1) ∧ V.cell? ⟨b, off + j * 8 + 6, none⟩ = some (.int .i64 xs[j].lim.2.2) ∧ V.cell? ⟨b, off + j * 8 + 7, none⟩ = some (.bool xs[j].mu) := by
  obtain ⟨b, off, us, rfl, hb, h1, h2⟩ := sm_any h j hj
  have h3 := impR_at.1 h1
  subst h3
  refine ⟨b, off, rfl, fun V hV => ⟨?_, ?_, ?_, ?_, ?_, ?_, ?_, ?_⟩⟩
  · exact (hV.cell hb).trans (h2 0 (by simp))
  · exact (hV.cell hb).trans (h2 1 (by simp))
  · exact (hV.cell hb).trans (h2 2 (by simp))
  · exact (hV.cell hb).trans (h2 3 (by simp))
  · exact (hV.cell hb).trans (h2 4 (by simp))
  · exact (hV.cell hb).trans (h2 5 (by simp))
  · exact (hV.cell hb).trans (h2 6 (by simp))
  · exact (hV.cell hb).trans (h2 7 (by simp))
theorem sm_fn {w1 : World} {ok : Nat → Prop} {A : Option Addr} {c : Nat} {xs : List GFn} (h : Lst fnR w1 ok A c xs) (j : Nat) (hj : j < xs.length) :
    ∃ b off A1 c1 A2 c2, A = some ⟨b, off, none⟩ ∧ ∀ V, Below w1.heap.size w1 V → V.cell? ⟨b, off + j * 3, none⟩ = some (.int .i64 xs[j].ty) ∧ V.cell? ⟨b, off + j * 3 + 1, none⟩ = some (.slice A1 xs[j].locals.length c1) ∧ V.cell? ⟨b, off + j * 3 + 2, none⟩ = some (.slice A2 xs[j].body.length c2) ∧ Lst intR V ok A1 c1 xs[j].locals ∧ Lst insR V ok A2 c2 xs[j].body := by
  obtain ⟨b, off, us, rfl, hb, h1, h2⟩ := sm_any h j hj
  obtain ⟨A1, c1, A2, c2, rfl, i1, i2⟩ := fnR_at.1 h1
  refine ⟨b, off, A1, c1, A2, c2, rfl, fun V hV => ⟨?_, ?_, ?_, i1.keep fun q hq hl => ⟨hV.block q hl, hq⟩, i2.keep fun q hq hl => ⟨hV.block q hl, hq⟩⟩⟩
  · exact (hV.cell hb).trans (h2 0 (by simp))
  · exact (hV.cell hb).trans (h2 1 (by simp))
  · exact (hV.cell hb).trans (h2 2 (by simp))
theorem sm_lim {w1 : World} {ok : Nat → Prop} {A : Option Addr} {c : Nat} {xs : List GLim} (h : Lst limR w1 ok A c xs) (j : Nat) (hj : j < xs.length) :
    ∃ b off, A = some ⟨b, off, none⟩ ∧ ∀ V, Below w1.heap.size w1 V → V.cell? ⟨b, off + j * 3, none⟩ = some (.int .i64 xs[j].1) ∧ V.cell? ⟨b, off + j * 3 + 1, none⟩ = some (.bool xs[j].2.1) ∧ V.cell? ⟨b, off + j * 3 + 2, none⟩ = some (.int .i64 xs[j].2.2) := by
  obtain ⟨b, off, us, rfl, hb, h1, h2⟩ := sm_any h j hj
  have h3 := limR_at.1 h1
  subst h3
  refine ⟨b, off, rfl, fun V hV => ⟨?_, ?_, ?_⟩⟩
  · exact (hV.cell hb).trans (h2 0 (by simp))
  · exact (hV.cell hb).trans (h2 1 (by simp))
  · exact (hV.cell hb).trans (h2 2 (by simp))
theorem sm_glob {w1 : World} {ok : Nat → Prop} {A : Option Addr} {c : Nat} {xs : List GGlob} (h : Lst globR w1 ok A c xs) (j : Nat) (hj : j < xs.length) :
    ∃ b off A1 c1, A = some ⟨b, off, none⟩ ∧ ∀ V, Below w1.heap.size w1 V → V.cell? ⟨b, off + j * 3, none⟩ = some (.int .i64 xs[j].ty) ∧ V.cell? ⟨b, off + j * 3 + 1, none⟩ = some (.bool xs[j].mu) ∧ V.cell? ⟨b, off + j * 3 + 2, none⟩ = some (.slice A1 xs[j].init.length c1) ∧ Lst insR V ok A1 c1 xs[j].init := by
  obtain ⟨b, off, us, rfl, hb, h1, h2⟩ := sm_any h j hj
  obtain ⟨A1, c1, rfl, i1⟩ := globR_at.1 h1
  refine ⟨b, off, A1, c1, rfl, fun V hV => ⟨?_, ?_, ?_, i1.keep fun q hq hl => ⟨hV.block q hl, hq⟩⟩⟩
  · exact (hV.cell hb).trans (h2 0 (by simp))
  · exact (hV.cell hb).trans (h2 1 (by simp))
  · exact (hV.cell hb).trans (h2 2 (by simp))
theorem sm_expo {w1 : World} {ok : Nat → Prop} {A : Option Addr} {c : Nat} {xs : List GExpo} (h : Lst expoR w1 ok A c xs) (j : Nat) (hj : j < xs.length) :
    ∃ b off, A = some ⟨b, off, none⟩ ∧ ∀ V, Below w1.heap.size w1 V → V.cell? ⟨b, off + j * 3, none⟩ = some (.string xs[j].nm) ∧ V.cell? ⟨b, off + j * 3 + 1, none⟩ = some (.int .i64 xs[j].kind) ∧ V.cell? ⟨b, off + j * 3 + 2, none⟩ = some (.int .i64 xs[j].idx) := by
  obtain ⟨b, off, us, rfl, hb, h1, h2⟩ := sm_any h j hj
  have h3 := expoR_at.1 h1
  subst h3
  refine ⟨b, off, rfl, fun V hV => ⟨?_, ?_, ?_⟩⟩
  · exact (hV.cell hb).trans (h2 0 (by simp))
  · exact (hV.cell hb).trans (h2 1 (by simp))
  · exact (hV.cell hb).trans (h2 2 (by simp))
theorem sm_el {w1 : World} {ok : Nat → Prop} {A : Option Addr} {c : Nat} {xs : List GEl} (h : Lst elR w1 ok A c xs) (j : Nat) (hj : j < xs.length) :
    ∃ b off A1 c1 A2 c2, A = some ⟨b, off, none⟩ ∧ ∀ V, Below w1.heap.size w1 V → V.cell? ⟨b, off + j * 3, none⟩ = some (.int .i64 xs[j].mode) ∧ V.cell? ⟨b, off + j * 3 + 1, none⟩ = some (.slice A1 xs[j].off.length c1) ∧ V.cell? ⟨b, off + j * 3 + 2, none⟩ = some (.slice A2 xs[j].fs.length c2) ∧ Lst insR V ok A1 c1 xs[j].off ∧ Lst intR V ok A2 c2 xs[j].fs := by
  obtain ⟨b, off, us, rfl, hb, h1, h2⟩ := sm_any h j hj
  obtain ⟨A1, c1, A2, c2, rfl, i1, i2⟩ := elR_at.1 h1
  refine ⟨b, off, A1, c1, A2, c2, rfl, fun V hV => ⟨?_, ?_, ?_, i1.keep fun q hq hl => ⟨hV.block q hl, hq⟩, i2.keep fun q hq hl => ⟨hV.block q hl, hq⟩⟩⟩
  · exact (hV.cell hb).trans (h2 0 (by simp))
  · exact (hV.cell hb).trans (h2 1 (by simp))
  · exact (hV.cell hb).trans (h2 2 (by simp))
theorem sm_dat {w1 : World} {ok : Nat → Prop} {A : Option Addr} {c : Nat} {xs : List GDat} (h : Lst datR w1 ok A c xs) (j : Nat) (hj : j < xs.length) :
    ∃ b off A1 c1 A2 c2, A = some ⟨b, off, none⟩ ∧ ∀ V, Below w1.heap.size w1 V → V.cell? ⟨b, off + j * 3, none⟩ = some (.int .i64 xs[j].mode) ∧ V.cell? ⟨b, off + j * 3 + 1, none⟩ = some (.slice A1 xs[j].off.length c1) ∧ V.cell? ⟨b, off + j * 3 + 2, none⟩ = some (.slice A2 xs[j].bs.length c2) ∧ Lst insR V ok A1 c1 xs[j].off ∧ Lst byteR V ok A2 c2 xs[j].bs := by
  obtain ⟨b, off, us, rfl, hb, h1, h2⟩ := sm_any h j hj
  obtain ⟨A1, c1, A2, c2, rfl, i1, i2⟩ := datR_at.1 h1
  refine ⟨b, off, A1, c1, A2, c2, rfl, fun V hV => ⟨?_, ?_, ?_, i1.keep fun q hq hl => ⟨hV.block q hl, hq⟩, i2.keep fun q hq hl => ⟨hV.block q hl, hq⟩⟩⟩
  · exact (hV.cell hb).trans (h2 0 (by simp))
  · exact (hV.cell hb).trans (h2 1 (by simp))
  · exact (hV.cell hb).trans (h2 2 (by simp))
end Go.Proofs.Ytdcolpmmojiffaa.Mod
