/- SumParts: whatever it is called with, it hands back true; nothing that was there has turned. -/
import Derived.Test.YtmcahmnldpmkbaaDoorSumAlive
import Derived.Test.YtmcahmnldpmkbaaDoorRel
import Derived.StillTailTactics
import Derived.RegionTactic
import Derived.BigRegion
namespace Go.Proofs.YtmcahmnldpmkbaaDoor
open Go.RowKit SumMath WordMath
/-- What an operation's value is: a value; a row that reads as l; or nothing is said. -/
inductive Spec where
  | val (v : Value)
  | row (l : List Nat)
def Spec.ok : Spec → Value → World → Prop
  | .val u, v, _ => v = u
  | .row l, v, w => ∃ A c, v = .slice A l.length c ∧ Row w A l
theorem Spec.stable {s : Spec} {v : Value} {w w' : World} (h : s.ok v w) (hb : Below w.heap.size w w') : s.ok v w' := by
  cases s with
  | val u => exact h
  | row l =>
    obtain ⟨A, c, e, hr⟩ := h
    exact ⟨A, c, e, hr.below hb⟩
def specs (S : List Spec) (i : Nat) (v : Value) (w : World) : Prop := (S.getD i (.val undef)).ok v w
/-- Words below w. -/
def On (w w' : World) : Prop := Below w.heap.size w w'
theorem On.trans {a b c : World} (h : On a b) (k : On b c) : On a c := Below.trans h (Below.mono k (Below.size h))
theorem step_words {l : List Nat} (hl : Wd l) (hlen : l.length ≤ 1099511627776) {o : Oper} {a : Act} {w : World} (x : Operand) (ty : TypeId) (ho : o.op = .call { callee := .value (.func 13), args := #[x], argTypes := #[ty] }) (hT : TabAt w) (hs : (Spec.row l).ok (a.eval x) w) :
    StepOK Tryd.prog On o a w ((Spec.val (.int .u32 (wordsV l : Nat))).ok) := by
  obtain ⟨A, c, e, hr⟩ := hs
  refine StepOK.call 13 #[.slice A l.length c] ?_ ((words_calls A l c w hr hl hl.mem hlen hT).mono fun e w' h => ⟨_, h.1, rfl, h.2⟩)
  unfold execOp
  rw [ho]
  simp only [resolve, List.map_toArray, List.map_cons, List.map_nil, e]
  simp [go_sem]
theorem step_alive {o : Oper} {a : Act} {w : World} (ho : o.op = .call { callee := .value (.func 8), args := #[], argTypes := #[] }) (hT : TabAt w) :
    StepOK Tryd.prog On o a w ((Spec.val (.bool true)).ok) := by
  refine StepOK.call 8 #[] ?_ ((alive_calls w hT).mono fun e w' h => ⟨_, h.1, rfl, h.2⟩)
  unfold execOp
  simp [ho, go_sem]
theorem step_slice {o : Oper} {a : Act} {w : World} (x hi : Operand) (ho : o.op = .slice 23 x none (some hi) none) (A : Option Addr) (len cap n : Nat) (h1 : a.eval x = .slice A len cap) (h2 : a.eval hi = .int .i64 (n : Int)) (hn : n ≤ cap) :
    StepOK Tryd.prog On o a w ((Spec.val (.slice A n cap)).ok) := by
  refine StepOK.run (.slice A n cap) ?_ rfl (Below.refl _ _)
  have hn2 : (n : Int) ≤ (cap : Int) := by omega
  unfold execOp
  rw [ho]
  simp only [Option.map_some, Option.map_none, h1, h2]
  simp [go_sem, hn2]
theorem step_xor {o : Oper} {a : Act} {w : World} (x y : Operand) (t u : TypeId) (ho : o.op = .binOp .xor t x y u) (m n : Nat) (h1 : a.eval x = .int .u32 (m : Int)) (h2 : a.eval y = .int .u32 (n : Int)) (hm : m < 4294967296) (hn : n < 4294967296) :
    StepOK Tryd.prog On o a w ((Spec.val (.int .u32 ((m ^^^ n : Nat) : Int))).ok) := by
  refine StepOK.run _ ?_ rfl (Below.refl _ _)
  have k := u32_xor_nat m n hm hn
  unfold execOp
  rw [ho]
  simp only [h1, h2]
  simp [go_sem, k]
theorem step_eq {o : Oper} {a : Act} {w : World} (x y : Operand) (t u : TypeId) (ho : o.op = .binOp .eql t x y u) (m : Nat) (h1 : a.eval x = .int .u32 (m : Int)) (h2 : a.eval y = .int .u32 (m : Int)) :
    StepOK Tryd.prog On o a w ((Spec.val (.bool true)).ok) := by
  refine StepOK.run _ ?_ rfl (Below.refl _ _)
  unfold execOp
  rw [ho]
  simp only [h1, h2]
  simp [go_sem]
theorem step_pick {o : Oper} {a : Act} {w : World} (x y z : Operand) (ho : o.op = .pick x y z) (h1 : a.eval x = .bool true) (h2 : a.eval y = .bool true) :
    StepOK Tryd.prog On o a w ((Spec.val (.bool true)).ok) := by
  refine StepOK.run _ ?_ rfl (Below.refl _ _)
  unfold execOp
  rw [ho]
  simp only [h1, h2]
  simp [go_sem]
theorem step_clone {l : List Nat} (hlen : l.length ≤ 17592186044416) {o : Oper} {a : Act} {w : World} (x : Operand) (ho : o.op = .call { callee := .builtin .append, args := #[.const (.slice none 0 0), x], argTypes := #[23, 23] })
    (hs : (Spec.row l).ok (a.eval x) w) : StepOK Tryd.prog On o a w ((Spec.row l).ok) := by
  obtain ⟨A, c, e, hr⟩ := hs
  obtain ⟨i0, hi0, hz0, hs0, hb0⟩ := info_parts u64_info
  obtain ⟨v, w', hrun, h2, h3⟩ := run_clone_own (P := Tryd.prog) w 23 o.type 36 i0 Tryd.underlying23 hi0 hz0 hs0 hb0 A l c hr hlen
  obtain ⟨_, A', c', rfl, hr', _⟩ := Row.of_ownC h2
  refine StepOK.run (.slice A' l.length c') ?_ ⟨A', c', rfl, hr'⟩ h3
  unfold execOp
  have e0 : a.eval (.const (.slice none 0 0)) = .slice none 0 0 := rfl
  simp only [ho, resolve, invoke, builtin, Sem.run_bind, Sem.run_pure, Result.andThen_ok, List.map_toArray, List.map_cons, List.map_nil, e0, e, hrun]
/-- The first j words are exclusive ors. -/
structure Xored (la lb lc : List Nat) (j : Nat) (Y : List Nat) : Prop where
  all : ∀ i, i < j → Y.getD i 0 = la.getD i 0 ^^^ lb.getD i 0 ^^^ lc.getD i 0
theorem Xored.zero (la lb lc : List Nat) (n : Nat) : Xored la lb lc 0 (List.replicate n 0) := ⟨fun i hi => absurd hi (by omega)⟩
theorem Xored.step {la lb lc Y : List Nat} {j : Nat} (h : Xored la lb lc j Y) (hj : j < Y.length) : Xored la lb lc (j + 1) (Y.set j (la.getD j 0 ^^^ lb.getD j 0 ^^^ lc.getD j 0)) := ⟨fun i hi => by
  by_cases he : i = j
  · subst he
    rw [List.getD_eq_getElem?_getD, List.getElem?_set_self hj, Option.getD_some]
  · rw [List.getD_eq_getElem?_getD, List.getElem?_set_ne (fun h => he h.symm), ← List.getD_eq_getElem?_getD]
    exact h.all i (by omega)⟩
theorem Xored.eq {la lb lc Y : List Nat} {n : Nat} (h : Xored la lb lc n Y) (hn : Y.length = n) : Y = (List.range n).map fun i => la.getD i 0 ^^^ lb.getD i 0 ^^^ lc.getD i 0 := by
  apply List.ext_getElem (by simp [hn])
  intro i h1 h2
  have := h.all i (by omega)
  rw [List.getD_eq_getElem?_getD, List.getElem?_eq_getElem h1, Option.getD_some] at this
  simpa using this
theorem take_range {l : List Nat} {n : Nat} (h : n ≤ l.length) : l.take n = (List.range n).map fun i => l.getD i 0 := by
  apply List.ext_getElem (by simp [h])
  intro i h1 h2
  have : i < l.length := by simp at h1; omega
  simp [this]
theorem xor3_key (x y z : Nat) (hx : x < 18446744073709551616) (hy : y < 18446744073709551616) (hz : z < 18446744073709551616) :
    bits .xor .u64 (bits .xor .u64 (x : Int) (y : Int)) (z : Int) = ((x ^^^ y ^^^ z : Nat) : Int) := by
  rw [u64_xor_nat _ _ hx hy, u64_xor_nat _ _ (Nat.xor_lt_two_pow (n := 64) hx hy) hz]
set_option maxRecDepth 100000 in
theorem parts_calls (A : Option Addr) (la : List Nat) (ca : Nat) (B : Option Addr) (lb : List Nat) (cb : Nat) (C : Option Addr) (lc : List Nat) (cc : Nat) (w : World)
    (hra : Row w A la) (hla : Wd la) (hlena : la.length ≤ 9223372036854775807) (hcapa : la.length ≤ ca) (hrb : Row w B lb) (hlb : Wd lb) (hlenb : lb.length ≤ 9223372036854775807) (hcapb : lb.length ≤ cb)
    (hrc : Row w C lc) (hlc : Wd lc) (hlenc : lc.length ≤ 9223372036854775807) (hcapc : lc.length ≤ cc) (hT : TabAt w) :
    Calls Tryd.prog 7 #[.slice A la.length ca, .slice B lb.length cb, .slice C lc.length cc] w fun e w' => e = .returned (.bool true) ∧ Below w.heap.size w w' := by
  have HT := Lib.hid hT
  clear hT
  obtain ⟨n, hn, hna, hnb, hnc⟩ : ∃ n : Nat, min (min la.length lb.length) lc.length = n ∧ n ≤ la.length ∧ n ≤ lb.length ∧ n ≤ lc.length := ⟨_, rfl, by omega, by omega, by omega⟩
  by_cases hbig3 : 100 < n
  · go_enter Tryd.func7, Tryd.ntmps7
    go_wp2_with (first
      | (refine wpList_min3 (by rfl) (.tmp 11) (.tmp 13) (.tmp 15) _ (by rfl) la.length lb.length lc.length (by rfl) (by rfl) (by rfl) ?_; rw [hn])
      | (go_at_call 8; refine (alive_calls _ HT.out).mono ?_; rintro e w' ⟨rfl, hb⟩))
    go_ret
    exact ⟨rfl, hb⟩
  have hmk := run_make_row' (P := Tryd.prog) 23 36 (.int .u64 0) 8 Tryd.underlying23 u64_info rfl .i64 .i64 n (by omega) (by omega)
  have hb0 := Lib.hid (Blk.new w 36 n)
  go_enter Tryd.func7, Tryd.ntmps7
  go_wp2_with (first
      | (refine wpList_min3 (by rfl) (.tmp 11) (.tmp 13) (.tmp 15) _ (by rfl) la.length lb.length lc.length (by rfl) (by rfl) (by rfl) ?_; rw [hn]))
  go_loopw [9] (fun i wr => ∃ (j : Nat) (Y : List Nat), i = .int .i64 j ∧ j ≤ n ∧ Y.length = n ∧ Xored la lb lc j Y ∧ Blk 36 wr w.heap.size Y ∧ Below w.heap.size w wr) (fun i _ => n - (intOf i).toNat)
  case atStart => exact ⟨0, _, rfl, by omega, by simp, Xored.zero la lb lc n, hb0.out, (Below.refl _ _).alloc (Nat.le_refl _) _⟩
  case round =>
    obtain ⟨j, Y, rfl, hj, hY, hX, hB, hb⟩ := hrel
    by_cases hjn : j < n
    · obtain ⟨aa, rfl, _, hca⟩ := hra.below hb (by omega)
      obtain ⟨ab, rfl, _, hcb⟩ := hrb.below hb (by omega)
      obtain ⟨ac, rfl, _, hcc⟩ := hrc.below hb (by omega)
      have h1 := hca j (by omega)
      have h2 := hcb j (by omega)
      have h3 := hcc j (by omega)
      have w1 := hla j
      have w2 := hlb j
      have w3 := hlc j
      have hc := hB.cell j (by omega)
      have hf := hB.frozen j
      have hx2 := Lib.hid (hX.step (by omega))
      have hset := Lib.hid (hB.set j (la.getD j 0 ^^^ lb.getD j 0 ^^^ lc.getD j 0))
      clear hca hcb hcc hra hrb hrc
      generalize la.getD j 0 = x at *
      generalize lb.getD j 0 = y at *
      generalize lc.getD j 0 = z at *
      generalize Y.getD j 0 = q at *
      have kx := Lib.hid (xor3_key x y z w1 w2 w3)
      have ia : (j : Int) < (la.length : Int) := by omega
      have ib : (j : Int) < (lb.length : Int) := by omega
      have ic : (j : Int) < (lc.length : Int) := by omega
      have iy : (j : Int) < (n : Int) := by omega
      have ja : j < la.length := by omega
      have jb : j < lb.length := by omega
      have jc : j < lc.length := by omega
      go_wp2_with (fail)
      go_region
      rw [kx.out]
      go_wp2_with (fail)
      go_roundw
      case rel => exact ⟨j + 1, _, by go_num, by omega, by rw [List.length_set]; exact hY, hx2.out, hset.out.drewN 1, below_drewN (hb.setCell (p := ⟨w.heap.size, j, none⟩) (Nat.le_refl _) _) 1⟩
      case measure => simp [intOf]; omega
    · obtain rfl : j = n := by omega
      have hYeq := hX.eq hY
      have hrY : Row wr (some ⟨w.heap.size, 0, none⟩) Y := hB.row
      have hra1 := hra.below hb
      have hrb1 := hrb.below hb
      have hrc1 := hrc.below hb
      have hwY : Wd Y := by
        rw [hYeq]
        refine Wd.of_mem fun x hx => ?_
        rw [List.mem_map] at hx
        obtain ⟨i, _, rfl⟩ := hx
        exact Nat.xor_lt_two_pow (n := 64) (Nat.xor_lt_two_pow (n := 64) (by simpa using hla i) (by simpa using hlb i)) (by simpa using hlc i)
      have hsum : wordsV Y = wordsV (la.take j) ^^^ wordsV (lb.take j) ^^^ wordsV (lc.take j) := by
        rw [hYeq, take_range hna, take_range hnb, take_range hnc]
        exact wordsV_xor3 _ _ _ j
      have HTw := Lib.hid (HT.out.below hb)
      have hta : (la.take j).length = j := by rw [List.length_take]; omega
      have htb : (lb.take j).length = j := by rw [List.length_take]; omega
      have htc : (lc.take j).length = j := by rw [List.length_take]; omega
      have hsa := wordsV_lt (hla.take j).mem
      have hsb := wordsV_lt (hlb.take j).mem
      have hsc := wordsV_lt (hlc.take j).mem
      clear hB hX hb0 hmk
      go_wp2_with (fail)
      refine wp_region_rel (T := On) (R := specs [.val (.slice (some ⟨w.heap.size, 0, none⟩) j j), .val (.int .u32 (wordsV Y : Nat)), .val (.slice A la.length ca), .val (.int .i64 j), .val (.slice A j ca), .row (la.take j), .val (.int .u32 (wordsV (la.take j) : Nat)),
        .val (.slice B lb.length cb), .val (.int .i64 j), .val (.slice B j cb), .row (lb.take j), .val (.int .u32 (wordsV (lb.take j) : Nat)), .val (.int .u32 ((wordsV (la.take j) ^^^ wordsV (lb.take j) : Nat) : Int)),
        .val (.slice C lc.length cc), .val (.int .i64 j), .val (.slice C j cc), .row (lc.take j), .val (.int .u32 (wordsV (lc.take j) : Nat)), .val (.int .u32 ((wordsV (la.take j) ^^^ wordsV (lb.take j) ^^^ wordsV (lc.take j) : Nat) : Int)),
        .val (.bool true), .val (.bool true), .val (.bool true), .val (.bool true), .val (.bool true)])
        (by kernel_rfl) (by kernel_rfl) (fun w => Below.refl _ _) On.trans (fun i v w w' h k => Spec.stable h k) (below_drewN (Below.refl _ _) 1) ?steps ?rest
      case steps =>
        refine ⟨?s0, ?s1, ?s2, ?s3, ?s4, ?s5, ?s6, ?s7, ?s8, ?s9, ?s10, ?s11, ?s12, ?s13, ?s14, ?s15, ?s16, ?s17, ?s18, ?s19, ?s20, ?s21, ?s22, ?s23, trivial⟩
        case s0 => exact fun a u hT hA hd => .inl ⟨rfl, StepOK.move (.tmp 8) rfl (hA.eval 8 rfl) (Below.refl _ _)⟩
        case s2 => exact fun a u hT hA hd => .inl ⟨rfl, StepOK.move (.tmp 0) rfl (hA.eval 0 rfl) (Below.refl _ _)⟩
        case s3 => exact fun a u hT hA hd => .inl ⟨rfl, StepOK.move (.tmp 7) rfl (hA.eval 7 rfl) (Below.refl _ _)⟩
        case s7 => exact fun a u hT hA hd => .inl ⟨rfl, StepOK.move (.tmp 1) rfl (hA.eval 1 rfl) (Below.refl _ _)⟩
        case s8 => exact fun a u hT hA hd => .inl ⟨rfl, StepOK.move (.tmp 7) rfl (hA.eval 7 rfl) (Below.refl _ _)⟩
        case s13 => exact fun a u hT hA hd => .inl ⟨rfl, StepOK.move (.tmp 2) rfl (hA.eval 2 rfl) (Below.refl _ _)⟩
        case s14 => exact fun a u hT hA hd => .inl ⟨rfl, StepOK.move (.tmp 7) rfl (hA.eval 7 rfl) (Below.refl _ _)⟩
        case s1 => exact fun a u hT hA hd => .inl ⟨rfl, step_words hwY (by omega) (.tmp 44) _ rfl (HTw.out.below hT) ⟨_, j, (dep hd 0 44 rfl rfl).trans (by rw [hY]), hrY.below hT⟩⟩
        case s4 => exact fun a u hT hA hd => .inl ⟨rfl, step_slice (.tmp 46) (.tmp 47) rfl A la.length ca j (dep hd 2 46 rfl rfl) (dep hd 3 47 rfl rfl) (Nat.le_trans hna hcapa)⟩
        case s9 => exact fun a u hT hA hd => .inl ⟨rfl, step_slice (.tmp 51) (.tmp 52) rfl B lb.length cb j (dep hd 7 51 rfl rfl) (dep hd 8 52 rfl rfl) (Nat.le_trans hnb hcapb)⟩
        case s15 => exact fun a u hT hA hd => .inl ⟨rfl, step_slice (.tmp 57) (.tmp 58) rfl C lc.length cc j (dep hd 13 57 rfl rfl) (dep hd 14 58 rfl rfl) (Nat.le_trans hnc hcapc)⟩
        case s5 => exact fun a u hT hA hd => .inl ⟨rfl, step_clone (by rw [hta]; omega) (.tmp 48) rfl ⟨A, ca, (dep hd 4 48 rfl rfl).trans (by rw [hta]), (hra1.below hT).take j⟩⟩
        case s10 => exact fun a u hT hA hd => .inl ⟨rfl, step_clone (by rw [htb]; omega) (.tmp 53) rfl ⟨B, cb, (dep hd 9 53 rfl rfl).trans (by rw [htb]), (hrb1.below hT).take j⟩⟩
        case s16 => exact fun a u hT hA hd => .inl ⟨rfl, step_clone (by rw [htc]; omega) (.tmp 59) rfl ⟨C, cc, (dep hd 15 59 rfl rfl).trans (by rw [htc]), (hrc1.below hT).take j⟩⟩
        case s6 => exact fun a u hT hA hd => .inl ⟨rfl, step_words (hla.take j) (by rw [hta]; omega) (.tmp 49) _ rfl (HTw.out.below hT) (dep hd 5 49 rfl rfl)⟩
        case s11 => exact fun a u hT hA hd => .inl ⟨rfl, step_words (hlb.take j) (by rw [htb]; omega) (.tmp 54) _ rfl (HTw.out.below hT) (dep hd 10 54 rfl rfl)⟩
        case s17 => exact fun a u hT hA hd => .inl ⟨rfl, step_words (hlc.take j) (by rw [htc]; omega) (.tmp 60) _ rfl (HTw.out.below hT) (dep hd 16 60 rfl rfl)⟩
        case s12 => exact fun a u hT hA hd => .inl ⟨rfl, step_xor (.tmp 50) (.tmp 55) _ _ rfl _ _ (dep hd 6 50 rfl rfl) (dep hd 11 55 rfl rfl) hsa hsb⟩
        case s18 => exact fun a u hT hA hd => .inl ⟨rfl, step_xor (.tmp 56) (.tmp 61) _ _ rfl _ _ (dep hd 12 56 rfl rfl) (dep hd 17 61 rfl rfl) (Nat.xor_lt_two_pow (n := 32) hsa hsb) hsc⟩
        case s19 => exact fun a u hT hA hd => .inl ⟨rfl, step_eq (.tmp 45) (.tmp 62) _ _ rfl (wordsV Y) (dep hd 1 45 rfl rfl) ((dep hd 18 62 rfl rfl).trans (by rw [hsum]))⟩
        case s20 => exact fun a u hT hA hd => .inl ⟨rfl, StepOK.move (.tmp 63) rfl (dep hd 19 63 rfl rfl) (Below.refl _ _)⟩
        case s21 => exact fun a u hT hA hd => .inl ⟨(wanted_of (g := 20) (want := true) (b := true) (d := 64) rfl rfl (dep hd 20 64 rfl rfl)).trans rfl, step_alive rfl (HTw.out.below hT)⟩
        case s22 => exact fun a u hT hA hd => .inl ⟨rfl, step_pick (.tmp 64) (.tmp 65) _ rfl (dep hd 20 64 rfl rfl) (dep hd 21 65 rfl rfl)⟩
        case s23 => exact fun a u hT hA hd => .inl ⟨rfl, StepOK.assign (.tmp 66) rfl (dep hd 22 66 rfl rfl) (Below.refl _ _)⟩
      case rest =>
        intro vs u hT hR
        have h23 : vs 23 = .bool true := hR 23 (by decide)
        simp only [putsFrom, Act.put, List.setIfInBounds_toArray, List.set_cons_succ, List.set_cons_zero, h23]
        have hB9 : Below w.heap.size w u := hb.trans (Below.mono hT hb.size)
        clear hR
        go_wp2_with (fail)
        go_ret
        exact ⟨rfl, hB9⟩
end Go.Proofs.YtmcahmnldpmkbaaDoor
