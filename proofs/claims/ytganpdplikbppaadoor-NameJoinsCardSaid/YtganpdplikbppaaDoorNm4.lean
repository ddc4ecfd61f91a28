/- strings.SplitSeq at a slash: the iterator that it hands back, which keeps in a cell what is left. -/
import Derived.Test.YtganpdplikbppaaDoorNm1
import Derived.Test.YtganpdplikbppaaDoorSeq
import Derived.Shelf.Abstract
import Derived.Shelf.RegionOpen
import Derived.WalkKit
import Derived.OwnWalkIn
import Derived.TacticsInMore
import Derived.LoopNIn
import Derived.LoopIn
set_option linter.unusedSimpArgs false
set_option linter.unusedVariables false
namespace Go.Proofs.YtganpdplikbppaaDoor
open Go.RowKit Go.Shelf Go.Lib
attribute [local go_sem] Oper.semAt_some

/-- How long the text in a cell is. -/
def leftIn (w : World) (b : Nat) : Nat := match w.cell? ⟨b, 0, none⟩ with
  | some (.string s) => s.size
  | _ => 0
theorem leftIn_eq {w : World} {b : Nat} {s : ByteArray} (h : w.cell? ⟨b, 0, none⟩ = some (.string s)) : leftIn w b = s.size := by unfold leftIn; rw [h]
abbrev toL (s : ByteArray) : List UInt8 := s.data.toList
theorem Boxed.only {F : Nat → Prop} {A B : World} {k : Nat} {t : TypeId} {v : Value} (h : Boxed A k t v) (ho : Only F A B) (hF : ¬ F k) : Boxed B k t v :=
  (ho.block k h.lt hF).trans h
theorem Boxed.stay {K : Nat → Prop} {A B : World} {k : Nat} {t : TypeId} {v : Value} (h : Boxed A k t v) (hs : Stay K A B) (hK : K k) : Boxed B k t v := hs.same hK h

set_option maxRecDepth 100000 in
set_option maxHeartbeats 2000000 in
theorem split1_gives (n : Nat) (hn : 1 ≤ n) (Bs Be Bv : Nat) (path : ByteArray) (hlen : path.size ≤ 1099511627776) (W : World) (he : Bs ≠ Be) (hv : Bs ≠ Bv)
    (b1 : Boxed W Bs 9 (.string path)) (b2 : Boxed W Be 9 (.string ⟨#[47]⟩)) (b3 : Boxed W Bv 3 (.int .i64 0)) :
    Gives Fence.wide n Tryd.prog 56 #[.pointer (some ⟨Be, 0, none⟩), .pointer (some ⟨Bs, 0, none⟩), .pointer (some ⟨Bv, 0, none⟩)] (fun x : ByteArray => #[Value.string x])
      (fun k => k = Bs) (fun k => k = Bs ∨ k = Be ∨ k = Bv) (fun xs => xs.map toL = pcs (toL path)) (fun pre => pre.map toL <+: pcs (toL path)) (pcs (toL path)).length W := by
  intro lo J Jx bJ bJx hY h0
  refine callsIn_of_wp Tryd.func56 rfl trivial ?_ rfl
  simp only [Tryd.ntmps56, List.size_toArray, List.length_cons, List.length_nil, Nat.reduceAdd, Nat.reduceSub, Array.replicate_succ, Array.replicate_zero, List.push_toArray, List.append_toArray, List.nil_append, List.cons_append]
  have c1 := b1.cell
  have c2 := b2.cell
  have c3 := b3.cell
  gi_wp2
  gi_loopw [7, 8] (fun _ _ wr => ∃ (pre : List ByteArray) (s : ByteArray), s.size ≤ 1099511627776 ∧ Hid (pre.map toL ++ pcs (toL s) = pcs (toL path)) ∧ J pre wr ∧ Boxed wr Bs 9 (.string s) ∧ Boxed wr Be 9 (.string ⟨#[47]⟩) ∧ Boxed wr Bv 3 (.int .i64 0))
    (fun _ _ wr => leftIn wr Bs)
  case atStart => exact ⟨[], path, hlen, rfl, h0, b1, b2, b3⟩
  case round =>
    obtain ⟨pre, s, hs, hcat, hJ, d1, d2, d3⟩ := hrel
    have e1 := d1.cell
    have e2 := d2.cell
    have e3 := d3.cell
    have f1 := d1.frozen
    have hlt1 := d1.lt
    have H1 := Lib.hid d1
    have H2 := Lib.hid d2
    have H3 := Lib.hid d3
    have HO : Hid (∀ k, (k = Bs) → k < wr.heap.size) := fun k hk => by subst hk; exact hlt1
    have hlp : pre.length < (pcs (toL path)).length := by
      obtain ⟨q, r, hq⟩ := pcs_cons (toL s)
      have := congrArg List.length hcat.out
      rw [hq] at this
      simp at this
      omega
    clear d1 d2 d3 b1 b2 b3 c1 c2 c3
    rcases Int.lt_or_le (indexByte (toL s) 47) 0 with hneg | hpos
    · -- the last piece
      have hm1 : indexByte (toL s) 47 = -1 := by have := indexByte_ge (toL s) 47; omega
      have hp1 := cut_none hm1
      obtain ⟨fn, tmps, assign, body, hy, hR⟩ := hY pre s wr hJ HO.out hlp
      gi_wp2_with (refine ⟨trivial, ?_⟩; gi_at_call 47; refine (callsIn_wide.2 (Tryd.strings_Index_one s 47 wr)).mono ?_; rintro e w' ⟨rfl, rfl⟩)
      have hall : (pre ++ [s]).map toL = pcs (toL path) := by rw [← hcat.out, hp1]; simp
      have HA := Lib.hid hall
      clear hall hp1
      refine hR.mono ?_
      rintro e W3 (⟨rfl, hJ3, _⟩ | ⟨rfl, hJx3, _⟩)
      · gi_wp2
        refine bodyPost_end (results_none rfl _ _ _) rfl ?_
        exact ⟨⟨_, rfl⟩, .inl ⟨_, HA.out, hJ3⟩⟩
      · gi_wp2
        refine bodyPost_end (results_none rfl _ _ _) rfl ?_
        exact ⟨⟨_, rfl⟩, .inr ⟨_, HA.out ▸ List.prefix_refl _, hJx3⟩⟩
    · obtain ⟨i, hi⟩ : ∃ i : Nat, indexByte (toL s) 47 = i := ⟨_, (Int.toNat_of_nonneg hpos).symm⟩
      obtain ⟨hlt, hcut⟩ := cut_some hi
      have hlt' : i < s.size := by rw [size_eq]; exact hlt
      have hi0 : ¬ ((i : Int) < 0) := by omega
      obtain ⟨x, hx⟩ : ∃ x, s.extract 0 i = x := ⟨_, rfl⟩
      obtain ⟨y, hyy⟩ : ∃ y, s.extract (i + 1) s.size = y := ⟨_, rfl⟩
      have hxl : toL x = (toL s).take i := by rw [← hx]; unfold toL; rw [extract_data]; simp
      have hyl : toL y = (toL s).drop (i + 1) := by rw [← hyy]; unfold toL; rw [extract_data]; rw [List.take_of_length_le]; rw [List.length_drop, size_eq]; exact Nat.le_refl _
      have hysz : y.size + i + 1 = s.size := by rw [size_eq y, show y.data.toList = _ from hyl, List.length_drop, size_eq s]; have := hlt; unfold toL at this; unfold toL; omega
      have hall : (pre ++ [x]).map toL ++ pcs (toL y) = pcs (toL path) := by rw [← hcat.out, hcut, hxl.symm, hyl.symm]; simp
      have HA := Lib.hid hall
      have HY := Lib.hid hysz
      clear hall hcut hxl hyl hysz hlt hpos
      obtain ⟨fn, tmps, assign, body, hy, hR⟩ := hY pre x wr hJ HO.out hlp
      gi_wp2_with (refine ⟨trivial, ?_⟩; gi_at_call 47; refine (callsIn_wide.2 (Tryd.strings_Index_one s 47 wr)).mono ?_; rintro e w' ⟨rfl, hw⟩; rw [hw, show indexByte s.data.toList 47 = (i : Int) from hi])
      refine hR.mono ?_
      rintro e W3 (⟨rfl, hJ3, hk3⟩ | ⟨rfl, hJx3, _⟩)
      · have d1 : Boxed _ _ _ _ := Boxed.stay H1.out hk3 (.inl rfl)
        have d2 : Boxed _ _ _ _ := Boxed.stay H2.out hk3 (.inr (.inl rfl))
        have d3 : Boxed _ _ _ _ := Boxed.stay H3.out hk3 (.inr (.inr rfl))
        have e1 := d1.cell
        have e2 := d2.cell
        have f1 := d1.frozen
        have hm0 : leftIn wr Bs = s.size := leftIn_eq (Boxed.cell H1.out)
        have hm1 : leftIn (W3.setCell ⟨Bs, 0, none⟩ (.string y)) Bs = y.size := leftIn_eq (d1.set (.string y)).cell
        have HM := Lib.hid (And.intro hm0 hm1)
        have D1 := Lib.hid d1
        have D2 := Lib.hid d2
        have D3 := Lib.hid d3
        clear d1 d2 d3 hm0 hm1
        gi_wp2
        go_roundw
        case rel => exact ⟨pre ++ [x], y, by have := HY.out; omega, HA.out, bJ _ _ _ hJ3 ((Only.refl (fun k => k = Bs) W3).setCell (p := ⟨Bs, 0, none⟩) (.inl rfl) _), Boxed.set _ D1.out, Boxed.other D2.out (fun e => he e.symm) _, Boxed.other D3.out (fun e => hv e.symm) _⟩
        case measure => rw [HM.out.1, HM.out.2]; have := HY.out; omega
      · gi_wp2
        refine bodyPost_ret (results_none rfl _ _ _) rfl ?_
        exact ⟨⟨_, rfl⟩, .inr ⟨_, ⟨pcs (toL y), HA.out⟩, hJx3⟩⟩
/-- What SplitSeq hands back. -/
theorem splitSeq_calls (s : ByteArray) (w : World) :
    Calls Tryd.prog 36 #[.string s, .string ⟨#[47]⟩] w fun e w' =>
      e = .returned (.func (.func 56) #[] #[.pointer (some ⟨w.heap.size + 1, 0, none⟩), .pointer (some ⟨w.heap.size, 0, none⟩), .pointer (some ⟨w.heap.size + 1 + 1, 0, none⟩)]) ∧
      w' = ((w.alloc (.cells #[.string s] 9)).alloc (.cells #[.string ⟨#[47]⟩] 9)).alloc (.cells #[.int .i64 0] 3) := by
  go_enter Tryd.func36, Tryd.ntmps36
  go_wp2
  go_ret
  exact ⟨rfl, rfl⟩
end Go.Proofs.YtganpdplikbppaaDoor
