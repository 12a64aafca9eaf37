/-
  ModKind: The things of a module as kinds in memory, in whole numbers as they stand there; what is decoded told so. No condition; nothing of the program.
-/
import Derived.Test.YtdcolpmmojiffaaQModRep
import Derived.Test.YtdcolpmmojiffaaQModMod
namespace Go.Proofs.Ytdcolpmmojiffaa.Mod
open Go.RowKit Leb

abbrev GLim : Type := Int × Bool × Int
structure GImp where
  md : ByteArray
  nm : ByteArray
  kind : Int
  ty : Int
  lim : GLim
  mu : Bool
structure GFn where
  ty : Int
  locals : List Int
  body : List Ins.Ins
structure GGlob where
  ty : Int
  mu : Bool
  init : List Ins.Ins
structure GExpo where
  nm : ByteArray
  kind : Int
  idx : Int
structure GEl where
  mode : Int
  off : List Ins.Ins
  fs : List Int
structure GDat where
  mode : Int
  off : List Ins.Ins
  bs : List Nat
abbrev GFt : Type := List Int × List Int
abbrev GCus : Type := ByteArray × List Nat
structure GMd where
  types : List GFt
  imps : List GImp
  funcs : List GFn
  tabs : List GLim
  mems : List GLim
  globs : List GGlob
  expos : List GExpo
  starts : List Int
  els : List GEl
  counts : List Int
  dats : List GDat
  cuss : List GCus
def noG : GMd := ⟨[], [], [], [], [], [], [], [], [], [], [], []⟩
def limR : Rep GLim := seqR intR (seqR boolR intR)
def ftR : Rep GFt := seqR (lstR intR) (lstR intR)
def impR : Rep GImp := mapR (fun x : GImp => (x.md, x.nm, x.kind, x.ty, x.lim, x.mu)) (seqR strR (seqR strR (seqR intR (seqR intR (seqR limR boolR)))))
def fnR : Rep GFn := mapR (fun x : GFn => (x.ty, x.locals, x.body)) (seqR intR (seqR (lstR intR) (lstR insR)))
def globR : Rep GGlob := mapR (fun x : GGlob => (x.ty, x.mu, x.init)) (seqR intR (seqR boolR (lstR insR)))
def expoR : Rep GExpo := mapR (fun x : GExpo => (x.nm, x.kind, x.idx)) (seqR strR (seqR intR intR))
def elR : Rep GEl := mapR (fun x : GEl => (x.mode, x.off, x.fs)) (seqR intR (seqR (lstR insR) (lstR intR)))
def datR : Rep GDat := mapR (fun x : GDat => (x.mode, x.off, x.bs)) (seqR intR (seqR (lstR insR) (lstR byteR)))
def cusR : Rep GCus := seqR strR (lstR byteR)
section
variable {w : World} {ok : Nat → Prop} {vs : List Value}
theorem limR_at {x : GLim} : limR.at_ w ok vs x ↔ vs = [.int .i64 x.1, .bool x.2.1, .int .i64 x.2.2] := by
  constructor
  · rintro ⟨u1, v1, rfl, h1, u2, v2, rfl, h2, h3⟩
    obtain rfl : u1 = [.int .i64 x.1] := h1
    obtain rfl : u2 = [.bool x.2.1] := h2
    obtain rfl : v2 = [.int .i64 x.2.2] := h3
    rfl
  · rintro rfl
    exact ⟨[_], _, rfl, rfl, [_], _, rfl, rfl, rfl⟩
theorem ftR_at {x : GFt} : ftR.at_ w ok vs x ↔ ∃ A c A' c', vs = [.slice A x.1.length c, .slice A' x.2.length c'] ∧ Lst intR w ok A c x.1 ∧ Lst intR w ok A' c' x.2 := by
  constructor
  · rintro ⟨u1, v1, rfl, ⟨A, c, rfl, h1⟩, A', c', rfl, h2⟩
    exact ⟨A, c, A', c', rfl, h1, h2⟩
  · rintro ⟨A, c, A', c', rfl, h1, h2⟩
    exact ⟨_, _, rfl, ⟨A, c, rfl, h1⟩, A', c', rfl, h2⟩
theorem impR_at {x : GImp} : impR.at_ w ok vs x ↔ vs = [.string x.md, .string x.nm, .int .i64 x.kind, .int .i64 x.ty, .int .i64 x.lim.1, .bool x.lim.2.1, .int .i64 x.lim.2.2, .bool x.mu] := by
  constructor
  · rintro ⟨u1, v1, rfl, h1, u2, v2, rfl, h2, u3, v3, rfl, h3, u4, v4, rfl, h4, u5, v5, rfl, h5, h6⟩
    obtain rfl : u1 = [.string x.md] := h1
    obtain rfl : u2 = [.string x.nm] := h2
    obtain rfl : u3 = [.int .i64 x.kind] := h3
    obtain rfl : u4 = [.int .i64 x.ty] := h4
    have h5 := limR_at.1 h5
    subst h5
    obtain rfl : v5 = [.bool x.mu] := h6
    rfl
  · rintro rfl
    exact ⟨[_], _, rfl, rfl, [_], _, rfl, rfl, [_], _, rfl, rfl, [_], _, rfl, rfl, [_, _, _], _, rfl, limR_at.2 rfl, rfl⟩
theorem fnR_at {x : GFn} : fnR.at_ w ok vs x ↔ ∃ A c A' c', vs = [.int .i64 x.ty, .slice A x.locals.length c, .slice A' x.body.length c'] ∧ Lst intR w ok A c x.locals ∧ Lst insR w ok A' c' x.body := by
  constructor
  · rintro ⟨u1, v1, rfl, h1, u2, v2, rfl, ⟨A, c, rfl, h2⟩, A', c', rfl, h3⟩
    obtain rfl : u1 = [.int .i64 x.ty] := h1
    exact ⟨A, c, A', c', rfl, h2, h3⟩
  · rintro ⟨A, c, A', c', rfl, h2, h3⟩
    exact ⟨[_], _, rfl, rfl, [_], _, rfl, ⟨A, c, rfl, h2⟩, A', c', rfl, h3⟩
theorem globR_at {x : GGlob} : globR.at_ w ok vs x ↔ ∃ A c, vs = [.int .i64 x.ty, .bool x.mu, .slice A x.init.length c] ∧ Lst insR w ok A c x.init := by
  constructor
  · rintro ⟨u1, v1, rfl, h1, u2, v2, rfl, h2, A, c, rfl, h3⟩
    obtain rfl : u1 = [.int .i64 x.ty] := h1
    obtain rfl : u2 = [.bool x.mu] := h2
    exact ⟨A, c, rfl, h3⟩
  · rintro ⟨A, c, rfl, h3⟩
    exact ⟨[_], _, rfl, rfl, [_], _, rfl, rfl, A, c, rfl, h3⟩
theorem expoR_at {x : GExpo} : expoR.at_ w ok vs x ↔ vs = [.string x.nm, .int .i64 x.kind, .int .i64 x.idx] := by
  constructor
  · rintro ⟨u1, v1, rfl, h1, u2, v2, rfl, h2, h3⟩
    obtain rfl : u1 = [.string x.nm] := h1
    obtain rfl : u2 = [.int .i64 x.kind] := h2
    obtain rfl : v2 = [.int .i64 x.idx] := h3
    rfl
  · rintro rfl
    exact ⟨[_], _, rfl, rfl, [_], _, rfl, rfl, rfl⟩
theorem elR_at {x : GEl} : elR.at_ w ok vs x ↔ ∃ A c A' c', vs = [.int .i64 x.mode, .slice A x.off.length c, .slice A' x.fs.length c'] ∧ Lst insR w ok A c x.off ∧ Lst intR w ok A' c' x.fs := by
  constructor
  · rintro ⟨u1, v1, rfl, h1, u2, v2, rfl, ⟨A, c, rfl, h2⟩, A', c', rfl, h3⟩
    obtain rfl : u1 = [.int .i64 x.mode] := h1
    exact ⟨A, c, A', c', rfl, h2, h3⟩
  · rintro ⟨A, c, A', c', rfl, h2, h3⟩
    exact ⟨[_], _, rfl, rfl, [_], _, rfl, ⟨A, c, rfl, h2⟩, A', c', rfl, h3⟩
theorem datR_at {x : GDat} : datR.at_ w ok vs x ↔ ∃ A c A' c', vs = [.int .i64 x.mode, .slice A x.off.length c, .slice A' x.bs.length c'] ∧ Lst insR w ok A c x.off ∧ Lst byteR w ok A' c' x.bs := by
  constructor
  · rintro ⟨u1, v1, rfl, h1, u2, v2, rfl, ⟨A, c, rfl, h2⟩, A', c', rfl, h3⟩
    obtain rfl : u1 = [.int .i64 x.mode] := h1
    exact ⟨A, c, A', c', rfl, h2, h3⟩
  · rintro ⟨A, c, A', c', rfl, h2, h3⟩
    exact ⟨[_], _, rfl, rfl, [_], _, rfl, ⟨A, c, rfl, h2⟩, A', c', rfl, h3⟩
end
end Go.Proofs.Ytdcolpmmojiffaa.Mod
