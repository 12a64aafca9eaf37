/-
  CtxEach: ctx.each, whatever function looks at the things; ctx.first. Conditions: what the function answers. (Written by wip/tools/genctxeach.py.)
-/
import Derived.Test.YtdcolpmmojiffaaQCtxLk0
import Derived.Deep.RegionHeld
namespace Go.Proofs.Ytdcolpmmojiffaa.Cx
open Go.RowKit Leb
open _root_.Go.Proofs.Ytdcolpmmojiffaa.Mod

section
variable (F : FuncId) (HE : ∀ (xs : Array Value) (W : World), (callFunc F xs).run Try.prog W = .ok (.enter F xs) W) (K0 : Value)
include HE
set_option maxRecDepth 100000 in
set_option maxHeartbeats 2000000 in
theorem each_imp (w : World) {ok : Nat → Prop} {A : Option Addr} {cc : Nat} (xs : List GImp) (f : GImp → Int) (hl : Lst impR w ok A cc xs) (hn : xs.length ≤ 100000) (HO : Hid (∀ (W : World) (x : GImp) , x ∈ xs → Below w.heap.size w W → Calls Try.prog F #[K0, .agg #[.string x.md, .string x.nm, .int .i64 x.kind, .int .i64 x.ty, .int .i64 x.lim.1, .bool x.lim.2.1, .int .i64 x.lim.2.2, .bool x.mu]] W (NumIs W (f x)))) : Calls Try.prog 41 #[.slice A xs.length cc, .func (.func F) #[K0] #[]] w (NumIs w (eachE f xs)) := by
  have HL := Lib.hid hl
  have hlen : (xs.length : Int) ≤ 100000 := by omega
  clear hl hn
  go_enter Try.func41, Try.ntmps41
  go_wp2_with fail
  go_loopw [10] (fun i wr => ∃ j : Nat, i = .int .i64 (j : Int) ∧ j ≤ xs.length ∧ Hid (Below w.heap.size w wr ∧ ∀ x ∈ xs.take j, f x = 0)) (fun i _ => xs.length - (intOf i).toNat)
  case atStart => exact ⟨0, rfl, Nat.zero_le _, Lib.hid ⟨Below.refl _ _, by simp⟩⟩
  case round =>
    obtain ⟨j, rfl, hj, HI⟩ := hrel
    by_cases hlt : j < xs.length
    · have hlti : (j : Int) < (xs.length : Int) := by omega
      obtain ⟨b, off, hA, h1⟩ := sm_imp HL.out j hlt
      obtain ⟨q0, q1, q2, q3, q4, q5, q6, q7⟩ := h1 wr HI.out.1
      rw [hA]
      have HX : Hid (∃ h : j < xs.length, xs[j] = xs[j]) := Lib.hid ⟨hlt, rfl⟩
      have HMEM : Hid (xs[j] ∈ xs) := Lib.hid (List.getElem_mem hlt)
      have HHIT : Hid (f xs[j] ≠ 0 → eachE f xs = f xs[j]) := Lib.hid fun h => each_hit hlt HI.out.2 h
      have HNXT : Hid (f xs[j] = 0 → ∀ x ∈ xs.take (j + 1), f x = 0) := Lib.hid fun h => all_next hlt HI.out.2 h
      clear h1 hA HX
      generalize xs[j] = x at *
      have HBA : Hid (Below wr.heap.size wr (wr.alloc (.cells #[.string x.md, .string x.nm, .int .i64 x.kind, .int .i64 x.ty, .int .i64 x.lim.1, .bool x.lim.2.1, .int .i64 x.lim.2.2, .bool x.mu] 72))) := Lib.hid ((Below.refl _ _).alloc (Nat.le_refl _) _)
      go_wp2_with fail
      refine (HO.out _ x HMEM.out (HI.out.1.trans (HBA.out.mono HI.out.1.size))).mono ?_
      rintro en w1 ⟨rfl, hb⟩
      have HB1 := Lib.hid (HI.out.1.trans ((HBA.out.mono HI.out.1.size).trans (hb.mono (Nat.le_trans HI.out.1.size HBA.out.size))))
      clear hb q0 q1 q2 q3 q4 q5 q6 q7 
      generalize hfe : f x = e at *
      by_cases he : e = 0
      · subst he
        have HN : Hid (Below w.heap.size w w1 ∧ ∀ x ∈ xs.take (j + 1), f x = 0) := Lib.hid ⟨HB1.out, HNXT.out rfl⟩
        clear HHIT HNXT
        go_wp2
        go_roundw
        case rel => exact ⟨j + 1, by go_num, by omega, HN⟩
        case measure => simp [intOf]; omega
      · have HE1 : Hid (eachE f xs = e) := Lib.hid (HHIT.out he)
        clear HHIT HNXT
        go_wp2
        go_ret
        exact ⟨by rw [HE1.out]; rfl, HB1.out⟩
    · have hlti : ¬ (j : Int) < (xs.length : Int) := by omega
      have HE1 : Hid (eachE f xs = 0) := Lib.hid (each_all (all_whole hlt HI.out.2))
      go_wp2
      go_ret
      exact ⟨by rw [HE1.out]; rfl, HI.out.1⟩
set_option maxRecDepth 100000 in
set_option maxHeartbeats 2000000 in
theorem each_fn (w : World) {ok : Nat → Prop} {A : Option Addr} {cc : Nat} (xs : List GFn) (f : GFn → Int) (hl : Lst fnR w ok A cc xs) (hn : xs.length ≤ 100000) (HO : Hid (∀ (W : World) (x : GFn) (A1 : Option Addr) (c1 : Nat) (A2 : Option Addr) (c2 : Nat), x ∈ xs → Below w.heap.size w W → Lst intR W ok A1 c1 x.locals → Lst insR W ok A2 c2 x.body → Calls Try.prog F #[K0, .agg #[.int .i64 x.ty, .slice A1 x.locals.length c1, .slice A2 x.body.length c2]] W (NumIs W (f x)))) : Calls Try.prog 43 #[.slice A xs.length cc, .func (.func F) #[K0] #[]] w (NumIs w (eachE f xs)) := by
  have HL := Lib.hid hl
  have hlen : (xs.length : Int) ≤ 100000 := by omega
  clear hl hn
  go_enter Try.func43, Try.ntmps43
  go_wp2_with fail
  go_loopw [10] (fun i wr => ∃ j : Nat, i = .int .i64 (j : Int) ∧ j ≤ xs.length ∧ Hid (Below w.heap.size w wr ∧ ∀ x ∈ xs.take j, f x = 0)) (fun i _ => xs.length - (intOf i).toNat)
  case atStart => exact ⟨0, rfl, Nat.zero_le _, Lib.hid ⟨Below.refl _ _, by simp⟩⟩
  case round =>
    obtain ⟨j, rfl, hj, HI⟩ := hrel
    by_cases hlt : j < xs.length
    · have hlti : (j : Int) < (xs.length : Int) := by omega
      obtain ⟨b, off, A1, c1, A2, c2, hA, h1⟩ := sm_fn HL.out j hlt
      obtain ⟨q0, q1, q2, l1, l2⟩ := h1 wr HI.out.1
      rw [hA]
      have HX : Hid (∃ h : j < xs.length, xs[j] = xs[j]) := Lib.hid ⟨hlt, rfl⟩
      have HMEM : Hid (xs[j] ∈ xs) := Lib.hid (List.getElem_mem hlt)
      have HHIT : Hid (f xs[j] ≠ 0 → eachE f xs = f xs[j]) := Lib.hid fun h => each_hit hlt HI.out.2 h
      have HNXT : Hid (f xs[j] = 0 → ∀ x ∈ xs.take (j + 1), f x = 0) := Lib.hid fun h => all_next hlt HI.out.2 h
      clear h1 hA HX
      generalize xs[j] = x at *
      have HBA : Hid (Below wr.heap.size wr (wr.alloc (.cells #[.int .i64 x.ty, .slice A1 x.locals.length c1, .slice A2 x.body.length c2] 99))) := Lib.hid ((Below.refl _ _).alloc (Nat.le_refl _) _)
      go_wp2_with fail
      refine (HO.out _ x A1 c1 A2 c2 HMEM.out (HI.out.1.trans (HBA.out.mono HI.out.1.size)) (lst_below l1 HBA.out) (lst_below l2 HBA.out)).mono ?_
      rintro en w1 ⟨rfl, hb⟩
      have HB1 := Lib.hid (HI.out.1.trans ((HBA.out.mono HI.out.1.size).trans (hb.mono (Nat.le_trans HI.out.1.size HBA.out.size))))
      clear hb q0 q1 q2 l1 l2
      generalize hfe : f x = e at *
      by_cases he : e = 0
      · subst he
        have HN : Hid (Below w.heap.size w w1 ∧ ∀ x ∈ xs.take (j + 1), f x = 0) := Lib.hid ⟨HB1.out, HNXT.out rfl⟩
        clear HHIT HNXT
        go_wp2
        go_roundw
        case rel => exact ⟨j + 1, by go_num, by omega, HN⟩
        case measure => simp [intOf]; omega
      · have HE1 : Hid (eachE f xs = e) := Lib.hid (HHIT.out he)
        clear HHIT HNXT
        go_wp2
        go_ret
        exact ⟨by rw [HE1.out]; rfl, HB1.out⟩
    · have hlti : ¬ (j : Int) < (xs.length : Int) := by omega
      have HE1 : Hid (eachE f xs = 0) := Lib.hid (each_all (all_whole hlt HI.out.2))
      go_wp2
      go_ret
      exact ⟨by rw [HE1.out]; rfl, HI.out.1⟩
set_option maxRecDepth 100000 in
set_option maxHeartbeats 2000000 in
theorem each_lim (w : World) {ok : Nat → Prop} {A : Option Addr} {cc : Nat} (xs : List GLim) (f : GLim → Int) (hl : Lst limR w ok A cc xs) (hn : xs.length ≤ 100000) (HO : Hid (∀ (W : World) (x : GLim) , x ∈ xs → Below w.heap.size w W → Calls Try.prog F #[.agg #[.int .i64 x.1, .bool x.2.1, .int .i64 x.2.2]] W (NumIs W (f x)))) : Calls Try.prog 45 #[.slice A xs.length cc, .func (.func F) #[] #[]] w (NumIs w (eachE f xs)) := by
  have HL := Lib.hid hl
  have hlen : (xs.length : Int) ≤ 100000 := by omega
  clear hl hn
  go_enter Try.func45, Try.ntmps45
  go_wp2_with fail
  go_loopw [10] (fun i wr => ∃ j : Nat, i = .int .i64 (j : Int) ∧ j ≤ xs.length ∧ Hid (Below w.heap.size w wr ∧ ∀ x ∈ xs.take j, f x = 0)) (fun i _ => xs.length - (intOf i).toNat)
  case atStart => exact ⟨0, rfl, Nat.zero_le _, Lib.hid ⟨Below.refl _ _, by simp⟩⟩
  case round =>
    obtain ⟨j, rfl, hj, HI⟩ := hrel
    by_cases hlt : j < xs.length
    · have hlti : (j : Int) < (xs.length : Int) := by omega
      obtain ⟨b, off, hA, h1⟩ := sm_lim HL.out j hlt
      obtain ⟨q0, q1, q2⟩ := h1 wr HI.out.1
      rw [hA]
      have HX : Hid (∃ h : j < xs.length, xs[j] = xs[j]) := Lib.hid ⟨hlt, rfl⟩
      have HMEM : Hid (xs[j] ∈ xs) := Lib.hid (List.getElem_mem hlt)
      have HHIT : Hid (f xs[j] ≠ 0 → eachE f xs = f xs[j]) := Lib.hid fun h => each_hit hlt HI.out.2 h
      have HNXT : Hid (f xs[j] = 0 → ∀ x ∈ xs.take (j + 1), f x = 0) := Lib.hid fun h => all_next hlt HI.out.2 h
      clear h1 hA HX
      generalize xs[j] = x at *
      have HBA : Hid (Below wr.heap.size wr (wr.alloc (.cells #[.int .i64 x.1, .bool x.2.1, .int .i64 x.2.2] 44))) := Lib.hid ((Below.refl _ _).alloc (Nat.le_refl _) _)
      go_wp2_with fail
      refine (HO.out _ x HMEM.out (HI.out.1.trans (HBA.out.mono HI.out.1.size))).mono ?_
      rintro en w1 ⟨rfl, hb⟩
      have HB1 := Lib.hid (HI.out.1.trans ((HBA.out.mono HI.out.1.size).trans (hb.mono (Nat.le_trans HI.out.1.size HBA.out.size))))
      clear hb q0 q1 q2 
      generalize hfe : f x = e at *
      by_cases he : e = 0
      · subst he
        have HN : Hid (Below w.heap.size w w1 ∧ ∀ x ∈ xs.take (j + 1), f x = 0) := Lib.hid ⟨HB1.out, HNXT.out rfl⟩
        clear HHIT HNXT
        go_wp2
        go_roundw
        case rel => exact ⟨j + 1, by go_num, by omega, HN⟩
        case measure => simp [intOf]; omega
      · have HE1 : Hid (eachE f xs = e) := Lib.hid (HHIT.out he)
        clear HHIT HNXT
        go_wp2
        go_ret
        exact ⟨by rw [HE1.out]; rfl, HB1.out⟩
    · have hlti : ¬ (j : Int) < (xs.length : Int) := by omega
      have HE1 : Hid (eachE f xs = 0) := Lib.hid (each_all (all_whole hlt HI.out.2))
      go_wp2
      go_ret
      exact ⟨by rw [HE1.out]; rfl, HI.out.1⟩
set_option maxRecDepth 100000 in
set_option maxHeartbeats 2000000 in
theorem each_glob (w : World) {ok : Nat → Prop} {A : Option Addr} {cc : Nat} (xs : List GGlob) (f : GGlob → Int) (hl : Lst globR w ok A cc xs) (hn : xs.length ≤ 100000) (HO : Hid (∀ (W : World) (x : GGlob) (A1 : Option Addr) (c1 : Nat), x ∈ xs → Below w.heap.size w W → Lst insR W ok A1 c1 x.init → Calls Try.prog F #[K0, .agg #[.int .i64 x.ty, .bool x.mu, .slice A1 x.init.length c1]] W (NumIs W (f x)))) : Calls Try.prog 49 #[.slice A xs.length cc, .func (.func F) #[K0] #[]] w (NumIs w (eachE f xs)) := by
  have HL := Lib.hid hl
  have hlen : (xs.length : Int) ≤ 100000 := by omega
  clear hl hn
  go_enter Try.func49, Try.ntmps49
  go_wp2_with fail
  go_loopw [10] (fun i wr => ∃ j : Nat, i = .int .i64 (j : Int) ∧ j ≤ xs.length ∧ Hid (Below w.heap.size w wr ∧ ∀ x ∈ xs.take j, f x = 0)) (fun i _ => xs.length - (intOf i).toNat)
  case atStart => exact ⟨0, rfl, Nat.zero_le _, Lib.hid ⟨Below.refl _ _, by simp⟩⟩
  case round =>
    obtain ⟨j, rfl, hj, HI⟩ := hrel
    by_cases hlt : j < xs.length
    · have hlti : (j : Int) < (xs.length : Int) := by omega
      obtain ⟨b, off, A1, c1, hA, h1⟩ := sm_glob HL.out j hlt
      obtain ⟨q0, q1, q2, l1⟩ := h1 wr HI.out.1
      rw [hA]
      have HX : Hid (∃ h : j < xs.length, xs[j] = xs[j]) := Lib.hid ⟨hlt, rfl⟩
      have HMEM : Hid (xs[j] ∈ xs) := Lib.hid (List.getElem_mem hlt)
      have HHIT : Hid (f xs[j] ≠ 0 → eachE f xs = f xs[j]) := Lib.hid fun h => each_hit hlt HI.out.2 h
      have HNXT : Hid (f xs[j] = 0 → ∀ x ∈ xs.take (j + 1), f x = 0) := Lib.hid fun h => all_next hlt HI.out.2 h
      clear h1 hA HX
      generalize xs[j] = x at *
      have HBA : Hid (Below wr.heap.size wr (wr.alloc (.cells #[.int .i64 x.ty, .bool x.mu, .slice A1 x.init.length c1] 87))) := Lib.hid ((Below.refl _ _).alloc (Nat.le_refl _) _)
      go_wp2_with fail
      refine (HO.out _ x A1 c1 HMEM.out (HI.out.1.trans (HBA.out.mono HI.out.1.size)) (lst_below l1 HBA.out)).mono ?_
      rintro en w1 ⟨rfl, hb⟩
      have HB1 := Lib.hid (HI.out.1.trans ((HBA.out.mono HI.out.1.size).trans (hb.mono (Nat.le_trans HI.out.1.size HBA.out.size))))
      clear hb q0 q1 q2 l1
      generalize hfe : f x = e at *
      by_cases he : e = 0
      · subst he
        have HN : Hid (Below w.heap.size w w1 ∧ ∀ x ∈ xs.take (j + 1), f x = 0) := Lib.hid ⟨HB1.out, HNXT.out rfl⟩
        clear HHIT HNXT
        go_wp2
        go_roundw
        case rel => exact ⟨j + 1, by go_num, by omega, HN⟩
        case measure => simp [intOf]; omega
      · have HE1 : Hid (eachE f xs = e) := Lib.hid (HHIT.out he)
        clear HHIT HNXT
        go_wp2
        go_ret
        exact ⟨by rw [HE1.out]; rfl, HB1.out⟩
    · have hlti : ¬ (j : Int) < (xs.length : Int) := by omega
      have HE1 : Hid (eachE f xs = 0) := Lib.hid (each_all (all_whole hlt HI.out.2))
      go_wp2
      go_ret
      exact ⟨by rw [HE1.out]; rfl, HI.out.1⟩
set_option maxRecDepth 100000 in
set_option maxHeartbeats 2000000 in
theorem each_int (w : World) {ok : Nat → Prop} {A : Option Addr} {cc : Nat} (xs : List Int) (f : Int → Int) (hl : Lst intR w ok A cc xs) (hn : xs.length ≤ 100000) (HO : Hid (∀ (W : World) (x : Int) , x ∈ xs → Below w.heap.size w W → Calls Try.prog F #[K0, .int .i64 x] W (NumIs W (f x)))) : Calls Try.prog 52 #[.slice A xs.length cc, .func (.func F) #[K0] #[]] w (NumIs w (eachE f xs)) := by
  have HL := Lib.hid hl
  have hlen : (xs.length : Int) ≤ 100000 := by omega
  clear hl hn
  go_enter Try.func52, Try.ntmps52
  go_wp2_with fail
  go_loopw [10] (fun i wr => ∃ j : Nat, i = .int .i64 (j : Int) ∧ j ≤ xs.length ∧ Hid (Below w.heap.size w wr ∧ ∀ x ∈ xs.take j, f x = 0)) (fun i _ => xs.length - (intOf i).toNat)
  case atStart => exact ⟨0, rfl, Nat.zero_le _, Lib.hid ⟨Below.refl _ _, by simp⟩⟩
  case round =>
    obtain ⟨j, rfl, hj, HI⟩ := hrel
    by_cases hlt : j < xs.length
    · have hlti : (j : Int) < (xs.length : Int) := by omega
      obtain ⟨b, off, hA, h1⟩ := sm_int HL.out j hlt
      obtain q0 := h1 wr HI.out.1
      rw [hA]
      have HX : Hid (∃ h : j < xs.length, xs[j] = xs[j]) := Lib.hid ⟨hlt, rfl⟩
      have HMEM : Hid (xs[j] ∈ xs) := Lib.hid (List.getElem_mem hlt)
      have HHIT : Hid (f xs[j] ≠ 0 → eachE f xs = f xs[j]) := Lib.hid fun h => each_hit hlt HI.out.2 h
      have HNXT : Hid (f xs[j] = 0 → ∀ x ∈ xs.take (j + 1), f x = 0) := Lib.hid fun h => all_next hlt HI.out.2 h
      clear h1 hA HX
      generalize xs[j] = x at *
      have HBA : Hid (Below wr.heap.size wr wr) := Lib.hid (Below.refl _ _)
      go_wp2_with fail
      refine (HO.out _ x HMEM.out (HI.out.1.trans (HBA.out.mono HI.out.1.size))).mono ?_
      rintro en w1 ⟨rfl, hb⟩
      have HB1 := Lib.hid (HI.out.1.trans ((HBA.out.mono HI.out.1.size).trans (hb.mono (Nat.le_trans HI.out.1.size HBA.out.size))))
      clear hb q0 
      generalize hfe : f x = e at *
      by_cases he : e = 0
      · subst he
        have HN : Hid (Below w.heap.size w w1 ∧ ∀ x ∈ xs.take (j + 1), f x = 0) := Lib.hid ⟨HB1.out, HNXT.out rfl⟩
        clear HHIT HNXT
        go_wp2
        go_roundw
        case rel => exact ⟨j + 1, by go_num, by omega, HN⟩
        case measure => simp [intOf]; omega
      · have HE1 : Hid (eachE f xs = e) := Lib.hid (HHIT.out he)
        clear HHIT HNXT
        go_wp2
        go_ret
        exact ⟨by rw [HE1.out]; rfl, HB1.out⟩
    · have hlti : ¬ (j : Int) < (xs.length : Int) := by omega
      have HE1 : Hid (eachE f xs = 0) := Lib.hid (each_all (all_whole hlt HI.out.2))
      go_wp2
      go_ret
      exact ⟨by rw [HE1.out]; rfl, HI.out.1⟩
set_option maxRecDepth 100000 in
set_option maxHeartbeats 2000000 in
theorem each_el (w : World) {ok : Nat → Prop} {A : Option Addr} {cc : Nat} (xs : List GEl) (f : GEl → Int) (hl : Lst elR w ok A cc xs) (hn : xs.length ≤ 100000) (HO : Hid (∀ (W : World) (x : GEl) (A1 : Option Addr) (c1 : Nat) (A2 : Option Addr) (c2 : Nat), x ∈ xs → Below w.heap.size w W → Lst insR W ok A1 c1 x.off → Lst intR W ok A2 c2 x.fs → Calls Try.prog F #[K0, .agg #[.int .i64 x.mode, .slice A1 x.off.length c1, .slice A2 x.fs.length c2]] W (NumIs W (f x)))) : Calls Try.prog 54 #[.slice A xs.length cc, .func (.func F) #[K0] #[]] w (NumIs w (eachE f xs)) := by
  have HL := Lib.hid hl
  have hlen : (xs.length : Int) ≤ 100000 := by omega
  clear hl hn
  go_enter Try.func54, Try.ntmps54
  go_wp2_with fail
  go_loopw [10] (fun i wr => ∃ j : Nat, i = .int .i64 (j : Int) ∧ j ≤ xs.length ∧ Hid (Below w.heap.size w wr ∧ ∀ x ∈ xs.take j, f x = 0)) (fun i _ => xs.length - (intOf i).toNat)
  case atStart => exact ⟨0, rfl, Nat.zero_le _, Lib.hid ⟨Below.refl _ _, by simp⟩⟩
  case round =>
    obtain ⟨j, rfl, hj, HI⟩ := hrel
    by_cases hlt : j < xs.length
    · have hlti : (j : Int) < (xs.length : Int) := by omega
      obtain ⟨b, off, A1, c1, A2, c2, hA, h1⟩ := sm_el HL.out j hlt
      obtain ⟨q0, q1, q2, l1, l2⟩ := h1 wr HI.out.1
      rw [hA]
      have HX : Hid (∃ h : j < xs.length, xs[j] = xs[j]) := Lib.hid ⟨hlt, rfl⟩
      have HMEM : Hid (xs[j] ∈ xs) := Lib.hid (List.getElem_mem hlt)
      have HHIT : Hid (f xs[j] ≠ 0 → eachE f xs = f xs[j]) := Lib.hid fun h => each_hit hlt HI.out.2 h
      have HNXT : Hid (f xs[j] = 0 → ∀ x ∈ xs.take (j + 1), f x = 0) := Lib.hid fun h => all_next hlt HI.out.2 h
      clear h1 hA HX
      generalize xs[j] = x at *
      have HBA : Hid (Below wr.heap.size wr (wr.alloc (.cells #[.int .i64 x.mode, .slice A1 x.off.length c1, .slice A2 x.fs.length c2] 90))) := Lib.hid ((Below.refl _ _).alloc (Nat.le_refl _) _)
      go_wp2_with fail
      refine (HO.out _ x A1 c1 A2 c2 HMEM.out (HI.out.1.trans (HBA.out.mono HI.out.1.size)) (lst_below l1 HBA.out) (lst_below l2 HBA.out)).mono ?_
      rintro en w1 ⟨rfl, hb⟩
      have HB1 := Lib.hid (HI.out.1.trans ((HBA.out.mono HI.out.1.size).trans (hb.mono (Nat.le_trans HI.out.1.size HBA.out.size))))
      clear hb q0 q1 q2 l1 l2
      generalize hfe : f x = e at *
      by_cases he : e = 0
      · subst he
        have HN : Hid (Below w.heap.size w w1 ∧ ∀ x ∈ xs.take (j + 1), f x = 0) := Lib.hid ⟨HB1.out, HNXT.out rfl⟩
        clear HHIT HNXT
        go_wp2
        go_roundw
        case rel => exact ⟨j + 1, by go_num, by omega, HN⟩
        case measure => simp [intOf]; omega
      · have HE1 : Hid (eachE f xs = e) := Lib.hid (HHIT.out he)
        clear HHIT HNXT
        go_wp2
        go_ret
        exact ⟨by rw [HE1.out]; rfl, HB1.out⟩
    · have hlti : ¬ (j : Int) < (xs.length : Int) := by omega
      have HE1 : Hid (eachE f xs = 0) := Lib.hid (each_all (all_whole hlt HI.out.2))
      go_wp2
      go_ret
      exact ⟨by rw [HE1.out]; rfl, HI.out.1⟩
set_option maxRecDepth 100000 in
set_option maxHeartbeats 2000000 in
theorem each_dat (w : World) {ok : Nat → Prop} {A : Option Addr} {cc : Nat} (xs : List GDat) (f : GDat → Int) (hl : Lst datR w ok A cc xs) (hn : xs.length ≤ 100000) (HO : Hid (∀ (W : World) (x : GDat) (A1 : Option Addr) (c1 : Nat) (A2 : Option Addr) (c2 : Nat), x ∈ xs → Below w.heap.size w W → Lst insR W ok A1 c1 x.off → Lst byteR W ok A2 c2 x.bs → Calls Try.prog F #[K0, .agg #[.int .i64 x.mode, .slice A1 x.off.length c1, .slice A2 x.bs.length c2]] W (NumIs W (f x)))) : Calls Try.prog 56 #[.slice A xs.length cc, .func (.func F) #[K0] #[]] w (NumIs w (eachE f xs)) := by
  have HL := Lib.hid hl
  have hlen : (xs.length : Int) ≤ 100000 := by omega
  clear hl hn
  go_enter Try.func56, Try.ntmps56
  go_wp2_with fail
  go_loopw [10] (fun i wr => ∃ j : Nat, i = .int .i64 (j : Int) ∧ j ≤ xs.length ∧ Hid (Below w.heap.size w wr ∧ ∀ x ∈ xs.take j, f x = 0)) (fun i _ => xs.length - (intOf i).toNat)
  case atStart => exact ⟨0, rfl, Nat.zero_le _, Lib.hid ⟨Below.refl _ _, by simp⟩⟩
  case round =>
    obtain ⟨j, rfl, hj, HI⟩ := hrel
    by_cases hlt : j < xs.length
    · have hlti : (j : Int) < (xs.length : Int) := by omega
      obtain ⟨b, off, A1, c1, A2, c2, hA, h1⟩ := sm_dat HL.out j hlt
      obtain ⟨q0, q1, q2, l1, l2⟩ := h1 wr HI.out.1
      rw [hA]
      have HX : Hid (∃ h : j < xs.length, xs[j] = xs[j]) := Lib.hid ⟨hlt, rfl⟩
      have HMEM : Hid (xs[j] ∈ xs) := Lib.hid (List.getElem_mem hlt)
      have HHIT : Hid (f xs[j] ≠ 0 → eachE f xs = f xs[j]) := Lib.hid fun h => each_hit hlt HI.out.2 h
      have HNXT : Hid (f xs[j] = 0 → ∀ x ∈ xs.take (j + 1), f x = 0) := Lib.hid fun h => all_next hlt HI.out.2 h
      clear h1 hA HX
      generalize xs[j] = x at *
      have HBA : Hid (Below wr.heap.size wr (wr.alloc (.cells #[.int .i64 x.mode, .slice A1 x.off.length c1, .slice A2 x.bs.length c2] 92))) := Lib.hid ((Below.refl _ _).alloc (Nat.le_refl _) _)
      go_wp2_with fail
      refine (HO.out _ x A1 c1 A2 c2 HMEM.out (HI.out.1.trans (HBA.out.mono HI.out.1.size)) (lst_below l1 HBA.out) (lst_below l2 HBA.out)).mono ?_
      rintro en w1 ⟨rfl, hb⟩
      have HB1 := Lib.hid (HI.out.1.trans ((HBA.out.mono HI.out.1.size).trans (hb.mono (Nat.le_trans HI.out.1.size HBA.out.size))))
      clear hb q0 q1 q2 l1 l2
      generalize hfe : f x = e at *
      by_cases he : e = 0
      · subst he
        have HN : Hid (Below w.heap.size w w1 ∧ ∀ x ∈ xs.take (j + 1), f x = 0) := Lib.hid ⟨HB1.out, HNXT.out rfl⟩
        clear HHIT HNXT
        go_wp2
        go_roundw
        case rel => exact ⟨j + 1, by go_num, by omega, HN⟩
        case measure => simp [intOf]; omega
      · have HE1 : Hid (eachE f xs = e) := Lib.hid (HHIT.out he)
        clear HHIT HNXT
        go_wp2
        go_ret
        exact ⟨by rw [HE1.out]; rfl, HB1.out⟩
    · have hlti : ¬ (j : Int) < (xs.length : Int) := by omega
      have HE1 : Hid (eachE f xs = 0) := Lib.hid (each_all (all_whole hlt HI.out.2))
      go_wp2
      go_ret
      exact ⟨by rw [HE1.out]; rfl, HI.out.1⟩
end
set_option maxRecDepth 100000 in
set_option maxHeartbeats 2000000 in
theorem first_any (w : World) {ok : Nat → Prop} {A : Option Addr} {cc : Nat} (xs : List Int) (hl : Lst intR w ok A cc xs) (hn : xs.length ≤ 100000) : Calls Try.prog 40 #[.slice A xs.length cc] w fun en w' => en = .returned (.int .i64 (firstE xs)) ∧ w' = w := by
  have HL := Lib.hid hl
  have hlen : (xs.length : Int) ≤ 100000 := by omega
  clear hl hn
  go_enter Try.func40, Try.ntmps40
  go_wp2_with fail
  go_loopw [7] (fun i wr => ∃ j : Nat, i = .int .i64 (j : Int) ∧ j ≤ xs.length ∧ Hid (∀ x ∈ xs.take j, x = 0) ∧ wr = w) (fun i _ => xs.length - (intOf i).toNat)
  case atStart => exact ⟨0, rfl, Nat.zero_le _, Lib.hid (by simp), rfl⟩
  case round =>
    obtain ⟨j, rfl, hj, HI, hwr⟩ := hrel
    subst wr
    by_cases hlt : j < xs.length
    · have hlti : (j : Int) < (xs.length : Int) := by omega
      obtain ⟨b, off, hA, h1⟩ := sm_int HL.out j hlt
      have q0 := h1 w (Below.refl _ _)
      rw [hA]
      have HHIT : Hid (xs[j] ≠ 0 → firstE xs = xs[j]) := Lib.hid fun h => each_hit (f := fun e => e) hlt HI.out h
      have HNXT : Hid (xs[j] = 0 → ∀ x ∈ xs.take (j + 1), x = 0) := Lib.hid fun h => all_next hlt HI.out h
      clear h1 hA
      generalize xs[j] = e at *
      by_cases he : e = 0
      · subst he
        have HN := Lib.hid (HNXT.out rfl)
        clear HHIT HNXT
        go_wp2
        go_roundw
        case rel => exact ⟨j + 1, by go_num, by omega, HN, by trivial⟩
        case measure => simp [intOf]; omega
      · have HE1 : Hid (firstE xs = e) := Lib.hid (HHIT.out he)
        clear HHIT HNXT
        go_wp2
        go_ret
        exact ⟨by rw [HE1.out]; rfl, rfl⟩
    · have hlti : ¬ (j : Int) < (xs.length : Int) := by omega
      have HE1 : Hid (firstE xs = 0) := Lib.hid (each_all (f := fun e => e) (all_whole hlt HI.out))
      go_wp2
      go_ret
      exact ⟨by rw [HE1.out]; rfl, rfl⟩
end Go.Proofs.Ytdcolpmmojiffaa.Cx
