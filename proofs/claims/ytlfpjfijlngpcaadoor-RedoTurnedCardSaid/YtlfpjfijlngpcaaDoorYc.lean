/- The words of a list's entries, and its commit word: the document's own, the program's. -/
import Derived.Test.YtlfpjfijlngpcaaDoorYb
import Derived.Test.YtlfpjfijlngpcaaDoorSum4
import Derived.Test.YtlfpjfijlngpcaaDoorUx
import Derived.Test.YtlfpjfijlngpcaaDoorUp
set_option linter.unusedSimpArgs false
set_option linter.unusedVariables false
namespace Go.Proofs.YtlfpjfijlngpcaaDoor
open Go.RowKit SumMath WordMath
/-- A row of words of the call's own (made at w). -/
def MineW (w w' : World) (A : Option Addr) (n c : Nat) (l : List Nat) : Prop := OwnR w' 26 1 A n c (wv l) ∧ ∀ ad, A = some ad → w.heap.size ≤ ad.block
theorem MineW.nil (w w' : World) : MineW w w' none 0 0 [] := ⟨OwnR.nil _ _ _, fun ad h => by cases h⟩
theorem MineW.row {w w' : World} {A : Option Addr} {n c : Nat} {l : List Nat} (h : MineW w w' A n c l) : Row w' A l := Row.of_cel h.1.cel
theorem MineW.on {w w' w'' : World} {A : Option Addr} {n c : Nat} {l : List Nat} (h : MineW w w' A n c l) (hb : Below w'.heap.size w' w'') : MineW w w'' A n c l :=
  ⟨h.1.keep fun ad e => hb.block _ (h.1.lt ad e), h.2⟩
theorem MineW.from {v w w' : World} {A : Option Addr} {n c : Nat} {l : List Nat} (h : MineW w w' A n c l) (hb : v.heap.size ≤ w.heap.size) : MineW v w' A n c l :=
  ⟨h.1, fun ad e => Nat.le_trans hb (h.2 ad e)⟩
theorem MineW.len {w w' : World} {A : Option Addr} {n c : Nat} {l : List Nat} (h : MineW w w' A n c l) : l.length = n := by
  have := h.1.1
  rw [wv_length] at this; omega
theorem MineW.cap {w w' : World} {A : Option Addr} {n c : Nat} {l : List Nat} (h : MineW w w' A n c l) : n ≤ c := h.1.2.1
theorem take_more {L : List Re} {k : Nat} (h : k < L.length) : L.take (k + 1) = L.take k ++ [L.getD k re0] := by
  rw [List.take_add_one, List.getD_eq_getElem?_getD, List.getElem?_eq_getElem h]; rfl
theorem body_more {L : List Re} {k : Nat} (h : k < L.length) : bodyL (L.take (k + 1)) = bodyL (L.take k) ++ [(L.getD k re0).pos.toNat, (L.getD k re0).word] := by
  rw [take_more h, body_snoc]
theorem body_wd {L : List Re} (h : ∀ k, k < L.length → (L.getD k re0).pos < 1048576 ∧ (L.getD k re0).word < 18446744073709551616) : Wd (bodyL L) := by
  refine Wd.of_mem fun x hx => ?_
  obtain ⟨j, hj, rfl⟩ := List.getElem_of_mem hx
  have hl := body_len L
  have h1 := body_at L (j / 2) (by omega)
  have h2 := h (j / 2) (by omega)
  have e : (bodyL L)[j] = (bodyL L).getD j 0 := by rw [List.getD_eq_getElem?_getD, List.getElem?_eq_getElem hj]; rfl
  rw [e]
  rcases (show j % 2 = 0 ∨ j % 2 = 1 by omega) with hp | hp
  · rw [show j = 2 * (j / 2) by omega, h1.1]; omega
  · rw [show j = 2 * (j / 2) + 1 by omega, h1.2]; omega
/-- Two words that were laid side by side. -/
theorem cells_two {w : World} {g : Nat} {x y : Nat} {t : TypeId} (hw : w.heap[g]? = some (.cells #[.int .u64 (x : Int), .int .u64 (y : Int)] t (0, 0))) :
    ∀ j u, (wv [x, y])[j]? = some u → w.cell? ((⟨g, 0, none⟩ : Addr).add j) = some u := by
  intro j u hu
  rw [add_zero_block, cell_of_row w g j _ t (0, 0) hw, ← hu, List.getElem?_toArray]
  rfl
/-- The row goes on. -/
theorem MineW.step {w wa w1 : World} {A : Option Addr} {n g c' : Nat} {l m ys : List Nat} (hw : w.heap.size ≤ wa.heap.size) (hA : ∀ ad, A = some ad → w.heap.size ≤ ad.block) (hB : Below w.heap.size w wa)
    (hown : OwnR w1 26 1 (some ⟨g, 0, none⟩) (n + 2) c' (wv l ++ wv m)) (hgr : wa.grownBy w1 (A.map (·.block))) (hg : A = some ⟨g, 0, none⟩ ∨ g = wa.heap.size) (hy : ys = l ++ m) :
    MineW w w1 (some ⟨g, 0, none⟩) (n + 2) c' ys ∧ Below w.heap.size w w1 := by
  subst hy
  refine ⟨⟨by rw [show wv (l ++ m) = wv l ++ wv m by simp [wv]]; exact hown, fun ad e => ?_⟩, hB.grown hgr hw (fun k hk => ?_)⟩
  · injection e with e
    subst e
    rcases hg with h | h
    · exact hA _ h
    · show w.heap.size ≤ g
      omega
  · rcases hAA : A with _ | ad
    · rw [hAA] at hk; cases hk
    · rw [hAA] at hk
      have : ad.block = k := by simpa using hk
      rw [← this]
      exact hA _ hAA
theorem ev_of {a : Act} {d : Tmp} {v : Value} (h : a.eval (.tmp d) = v) : a.tmps[d]?.getD undef = v := by
  simpa [Act.eval] using h
/-- Operation 12 leaves a row of two words; what the others leave. -/
def BoR (S : List Sp4) (B p x : Nat) (i : Nat) (v : Value) (w : World) : Prop :=
  if i = 12 then ∃ g, v = .slice (some ⟨g, 0, none⟩) 2 2 ∧ w.heap[g]? = some (.cells #[.int .u64 (p : Int), .int .u64 (x : Int)] 26 (0, 0)) ∧ B ≤ g else R4 S i v w
theorem BoR.stable {S : List Sp4} {B p x i : Nat} {v : Value} {w w' : World} (h : BoR S B p x i v w) (hb : On w w') : BoR S B p x i v w' := by
  unfold BoR at h ⊢
  split
  · rw [if_pos (by assumption)] at h
    obtain ⟨g, e, hg, hB⟩ := h
    exact ⟨g, e, (Below.block hb g (lt_of_cells hg)).trans hg, hB⟩
  · rw [if_neg (by assumption)] at h
    exact Sp4.stable h hb
def GoodR (L : List Re) : Prop := ∀ k, k < L.length → 0 ≤ (L.getD k re0).pos ∧ (L.getD k re0).pos < 1048576 ∧ (L.getD k re0).word < 18446744073709551616
theorem GoodR.wd {L : List Re} (h : GoodR L) : Wd (bodyL L) := body_wd fun k hk => (h k hk).2
def GivesW (l : List Nat) (w : World) (e : Ending) (w' : World) : Prop := ∃ A c, e = .returned (.slice A l.length c) ∧ MineW w w' A l.length c l ∧ Below w.heap.size w w'
set_option maxRecDepth 100000 in
theorem rbody_calls (A : Option Addr) (L : List Re) (c : Nat) (w : World) (ha : Cel w A (ev L)) (hg : GoodR L) (hlen : L.length ≤ 1099511627776) :
    Calls Tryd.prog 13 #[.slice A L.length c] w (GivesW (bodyL L) w) := by
  obtain ⟨n, hLn⟩ : ∃ n, L.length = n := ⟨_, rfl⟩
  have HL := Lib.hid hLn
  rw [hLn]
  rw [hLn] at hlen
  obtain ⟨i0, hi0, hz0, hs0, hb0⟩ := info_parts u64_info
  have HI := Lib.hid hi0
  have HZ := Lib.hid hz0
  have HS := Lib.hid hs0
  have HB := Lib.hid hb0
  have HG := Lib.hid hg
  clear hi0 hz0 hs0 hb0 hLn hg
  go_enter Tryd.func13, Tryd.ntmps13
  go_wp2_with (fail)
  go_loopw [3, 4] (fun out i wr => ∃ (k m : Nat) (X : List Nat) (R : Option Addr) (cr : Nat), i = .int .i64 k ∧ k ≤ n ∧ out = .slice R m cr ∧ Hid (m = 2 * k) ∧ Hid (bodyL (L.take k) = X) ∧ Hid (MineW w wr R m cr X) ∧ Below w.heap.size w wr) (fun _ i _ => n - (intOf i).toNat)
  case atStart => exact ⟨0, 0, [], none, 0, rfl, by omega, rfl, rfl, rfl, Lib.hid (MineW.nil _ _), Below.refl _ _⟩
  case round =>
    obtain ⟨k, m, X, R, cr, rfl, hk, rfl, hm, hX, hO, hBr⟩ := hrel
    by_cases h1 : k < n
    · have har := ha.below hBr
      obtain ⟨b1, o1, rfl, hlb, hca⟩ := har.re (by rw [HL.out]; omega)
      obtain ⟨e1, e2⟩ := hca k (by rw [HL.out]; exact h1)
      have hs := body_more (L := L) (k := k) (by rw [HL.out]; exact h1)
      obtain ⟨g0, g1, g2⟩ := HG.out k (by rw [HL.out]; exact h1)
      obtain ⟨p, hp⟩ := Int.eq_ofNat_of_zero_le g0
      rw [hp] at e1 g1 hs
      rw [Int.toNat_natCast, hX.out] at hs
      have HS2 := Lib.hid hs
      have HM := Lib.hid (show m ≤ 2 * n by have := hm.out; omega)
      have HBW := Lib.hid hBr
      have hsz := hBr.size
      clear hca har ha g0 hp hs
      generalize (L.getD k re0).word = x at *
      have h1i : (k : Int) < (n : Int) := by omega
      have hwr : IntKind.u64.wrap (p : Int) = (p : Int) := by rw [IntKind.wrap_u64]; omega
      go_wp2_with (fail)
      refine wp_region_tailT (R := BoR [.val (.slice R m cr), .val (.slice (some ⟨b1, o1, none⟩) n c), .val (.int .i64 (k : Nat)), .val (.pointer (some ⟨b1, o1 + k * 2, none⟩)), .val (.pointer (some ⟨b1, o1 + k * 2, none⟩)), .val (.int .i64 (p : Int)), .val (.int .u64 (p : Int)), .val (.slice (some ⟨b1, o1, none⟩) n c), .val (.int .i64 (k : Nat)), .val (.pointer (some ⟨b1, o1 + k * 2, none⟩)), .val (.pointer (some ⟨b1, o1 + k * 2 + 1, none⟩)), .val (.int .u64 (x : Int))] w.heap.size p x) 13 (by kernel_rfl) (by kernel_rfl) (by kernel_rfl) (by kernel_rfl) (by kernel_rfl) (by decide) (by kernel_rfl) (fun i v u u' h k => BoR.stable h k) (fun i o hi h13 => ?heads) (fun vs u hb hR => ?tail)
      case heads =>
        match i, h13 with
        | 0, _ =>
          injection hi with hi
          subst hi
          intro a u hb hA hd
          have q0 := ev_of (show a.eval (.tmp 3) = .slice R m cr from hA.eval 3 rfl)
          refine .inl ⟨rfl, StepOK.run (.slice R m cr) ?_ rfl (On.refl _)⟩
          unfold execOp
          simp [go_sem, q0]
        | 1, _ =>
          injection hi with hi
          subst hi
          intro a u hb hA hd
          have q0 := ev_of (show a.eval (.tmp 0) = .slice (some ⟨b1, o1, none⟩) n c from hA.eval 0 rfl)
          refine .inl ⟨rfl, StepOK.run (.slice (some ⟨b1, o1, none⟩) n c) ?_ rfl (On.refl _)⟩
          unfold execOp
          simp [go_sem, q0]
        | 2, _ =>
          injection hi with hi
          subst hi
          intro a u hb hA hd
          have q0 := ev_of (show a.eval (.tmp 4) = .int .i64 (k : Nat) from hA.eval 4 rfl)
          refine .inl ⟨rfl, StepOK.run (.int .i64 (k : Nat)) ?_ rfl (On.refl _)⟩
          unfold execOp
          simp [go_sem, q0]
        | 3, _ =>
          injection hi with hi
          subst hi
          intro a u hb hA hd
          have q0 := ev_of (show a.eval (.tmp 12) = .slice (some ⟨b1, o1, none⟩) n c from dep hd 1 12 rfl rfl)
          have q1 := ev_of (show a.eval (.tmp 13) = .int .i64 (k : Nat) from dep hd 2 13 rfl rfl)
          refine .inl ⟨rfl, StepOK.run (.pointer (some ⟨b1, o1 + k * 2, none⟩)) ?_ rfl (On.refl _)⟩
          unfold execOp
          simp [go_sem, q0, q1, h1i]
        | 4, _ =>
          injection hi with hi
          subst hi
          intro a u hb hA hd
          have q0 := ev_of (show a.eval (.tmp 14) = .pointer (some ⟨b1, o1 + k * 2, none⟩) from dep hd 3 14 rfl rfl)
          refine .inl ⟨rfl, StepOK.run (.pointer (some ⟨b1, o1 + k * 2, none⟩)) ?_ rfl (On.refl _)⟩
          unfold execOp
          simp [go_sem, q0]
        | 5, _ =>
          injection hi with hi
          subst hi
          intro a u hb hA hd
          have q0 := ev_of (show a.eval (.tmp 15) = .pointer (some ⟨b1, o1 + k * 2, none⟩) from dep hd 4 15 rfl rfl)
          have y0 := (hb.cell (p := ⟨b1, o1 + k * 2, none⟩) hlb).trans e1
          refine .inl ⟨rfl, StepOK.run (.int .i64 (p : Int)) ?_ rfl (On.refl _)⟩
          unfold execOp
          simp [go_sem, q0, y0]
        | 6, _ =>
          injection hi with hi
          subst hi
          intro a u hb hA hd
          have q0 := ev_of (show a.eval (.tmp 16) = .int .i64 (p : Int) from dep hd 5 16 rfl rfl)
          refine .inl ⟨rfl, StepOK.run (.int .u64 (p : Int)) ?_ rfl (On.refl _)⟩
          unfold execOp
          simp [go_sem, q0, hwr]
        | 7, _ =>
          injection hi with hi
          subst hi
          intro a u hb hA hd
          have q0 := ev_of (show a.eval (.tmp 0) = .slice (some ⟨b1, o1, none⟩) n c from hA.eval 0 rfl)
          refine .inl ⟨rfl, StepOK.run (.slice (some ⟨b1, o1, none⟩) n c) ?_ rfl (On.refl _)⟩
          unfold execOp
          simp [go_sem, q0]
        | 8, _ =>
          injection hi with hi
          subst hi
          intro a u hb hA hd
          have q0 := ev_of (show a.eval (.tmp 4) = .int .i64 (k : Nat) from hA.eval 4 rfl)
          refine .inl ⟨rfl, StepOK.run (.int .i64 (k : Nat)) ?_ rfl (On.refl _)⟩
          unfold execOp
          simp [go_sem, q0]
        | 9, _ =>
          injection hi with hi
          subst hi
          intro a u hb hA hd
          have q0 := ev_of (show a.eval (.tmp 18) = .slice (some ⟨b1, o1, none⟩) n c from dep hd 7 18 rfl rfl)
          have q1 := ev_of (show a.eval (.tmp 19) = .int .i64 (k : Nat) from dep hd 8 19 rfl rfl)
          refine .inl ⟨rfl, StepOK.run (.pointer (some ⟨b1, o1 + k * 2, none⟩)) ?_ rfl (On.refl _)⟩
          unfold execOp
          simp [go_sem, q0, q1, h1i]
        | 10, _ =>
          injection hi with hi
          subst hi
          intro a u hb hA hd
          have q0 := ev_of (show a.eval (.tmp 20) = .pointer (some ⟨b1, o1 + k * 2, none⟩) from dep hd 9 20 rfl rfl)
          refine .inl ⟨rfl, StepOK.run (.pointer (some ⟨b1, o1 + k * 2 + 1, none⟩)) ?_ rfl (On.refl _)⟩
          unfold execOp
          simp [go_sem, q0]
        | 11, _ =>
          injection hi with hi
          subst hi
          intro a u hb hA hd
          have q0 := ev_of (show a.eval (.tmp 21) = .pointer (some ⟨b1, o1 + k * 2 + 1, none⟩) from dep hd 10 21 rfl rfl)
          have y0 := (hb.cell (p := ⟨b1, o1 + k * 2 + 1, none⟩) hlb).trans e2
          refine .inl ⟨rfl, StepOK.run (.int .u64 (x : Int)) ?_ rfl (On.refl _)⟩
          unfold execOp
          simp [go_sem, q0, y0]
        | 12, _ =>
          injection hi with hi
          subst hi
          intro a u hb hA hd
          have q0 := ev_of (show a.eval (.tmp 17) = .int .u64 (p : Int) from dep hd 6 17 rfl rfl)
          have q1 := ev_of (show a.eval (.tmp 22) = .int .u64 (x : Int) from dep hd 11 22 rfl rfl)
          have hsu := Nat.le_trans hsz (Below.size hb)
          refine .inl ⟨rfl, StepOK.run (.slice (some ⟨u.heap.size, 0, none⟩) 2 2) ?_ ?_ (on_alloc u (.cells #[.int .u64 (p : Int), .int .u64 (x : Int)] 26))⟩
          · unfold execOp
            simp [go_sem, q0, q1]
          · exact ⟨_, rfl, heap_alloc_new _ _, hsu⟩
      case tail =>
        have ee0 : vs 0 = .slice R m cr := hR 0 (by decide)
        obtain ⟨g, ee12, hg12, hBg⟩ := (show ∃ g, vs 12 = .slice (some ⟨g, 0, none⟩) 2 2 ∧ u.heap[g]? = some (.cells #[.int .u64 (p : Int), .int .u64 (x : Int)] 26 (0, 0)) ∧ w.heap.size ≤ g from hR 12 (by decide))
        simp only [putsFrom, Act.put, List.setIfInBounds_toArray, List.set_cons_succ, List.set_cons_zero, List.take_succ_cons, List.take_zero, List.drop_succ_cons, List.drop_zero, ee0, ee12]
        generalize vs 1 = z1
        generalize vs 2 = z2
        generalize vs 3 = z3
        generalize vs 4 = z4
        generalize vs 5 = z5
        generalize vs 6 = z6
        generalize vs 7 = z7
        generalize vs 8 = z8
        generalize vs 9 = z9
        generalize vs 10 = z10
        generalize vs 11 = z11
        have HG12 := Lib.hid hg12
        have HOU := Lib.hid (hO.out.on hb)
        have HBU := Lib.hid (hBr.trans (hb.mono hsz))
        have hsu := Nat.le_trans hsz (Below.size hb)
        clear hR ee0 ee12 hg12 hb e1 e2 hlb hBr hO hBg
        go_wp2_with (at_builtin; refine wpList_append_r rfl (.tmp 11) (.tmp 23) 25 rfl 26 i0 _ 1 8 Tryd.underlying25 HI.out HZ.out HS.out HB.out rfl R m cr (wv X) rfl HOU.out.1 ⟨g, 0, none⟩ 2 2 (wv [p, x]) rfl rfl (cells_two HG12.out) (wv_one _) (by decide) (by unfold maxLen; have := HM.out; omega) (by have := HM.out; omega) ?_; intro g' c2 w1 hown2 hgr hg)
        have hst := MineW.step (by exact hsu) HOU.out.2 HBU.out hown2 hgr hg HS2.out
        go_roundw
        case rel => exact ⟨k + 1, m + 2, _, _, c2, by go_num, by omega, rfl, Lib.hid (by have := hm.out; omega), rfl, Lib.hid hst.1, hst.2⟩
        case measure => simp [intOf]; omega
    · obtain rfl : k = n := by omega
      have e1 : (bodyL L).length = m := by rw [body_len, HL.out]; exact hm.out.symm
      have e2 : X = bodyL L := by rw [← hX.out, ← HL.out, List.take_length]
      have KF : GivesW (bodyL L) w (.returned (.slice R m cr)) wr := ⟨R, cr, by rw [e1], by rw [e1, ← e2]; exact hO.out, hBr⟩
      have KFH := Lib.hid KF
      clear KF hO e1 e2
      go_wp2_with (fail)
      go_ret
      exact KFH.out
/-- The commit word of a body. -/
def commitW (l : List Nat) : Nat := l.length / 2 + 20992 + 4294967296 * wordsV l
theorem commit_body (L : List Re) : commitW (bodyL L) = commitN L := by
  unfold commitW commitN
  rw [body_len, show 2 * L.length / 2 = L.length by omega]
theorem commit_sum (n x : Nat) (hn : n < 256) (hx : x < 4294967296) : IntKind.u64.wrap ((n : Int) + 20992) = (n : Int) + 20992 ∧ IntKind.u64.wrap ((x : Int) * 4294967296) = (x : Int) * 4294967296 ∧ (n : Int) + 20992 + (x : Int) * 4294967296 = ((n + 20992 + 4294967296 * x : Nat) : Int) := by
  refine ⟨?_, ?_, by omega⟩ <;> rw [IntKind.wrap_u64] <;> omega
set_option maxRecDepth 100000 in
theorem rcommit_calls (A : Option Addr) (L : List Re) (c : Nat) (w : World) (ha : Cel w A (ev L)) (hg : GoodR L) (hlen : L.length ≤ 64) :
    Calls Tryd.prog 14 #[.slice A L.length c] w fun e w' => e = .returned (.int .u64 (commitN L : Nat)) ∧ Below w.heap.size w w' := by
  have hx := wordsV_lt hg.wd.mem
  have KV := Lib.hid (show commitN L = L.length + 20992 + 4294967296 * wordsV (bodyL L) from rfl)
  have cb := rbody_calls A L c w ha hg (by omega)
  have CW := Lib.hid (fun R cr w1 hr => rwords_calls R (bodyL L) cr w1 hr hg.wd (by rw [body_len]; omega))
  obtain ⟨k1, k2, k3⟩ := commit_sum L.length _ (by omega) hx
  have K3 := Lib.hid k3
  clear k3
  generalize wordsV (bodyL L) = x at *
  generalize bodyL L = Y at *
  go_enter Tryd.func14, Tryd.ntmps14
  go_wp2_with (fail)
  refine cb.mono ?_
  rintro e w1 ⟨R, cr, rfl, hm, hb⟩
  go_wp2_with (fail)
  refine (CW.out R cr w1 hm.row).mono ?_
  rintro e w2 ⟨rfl, hb2⟩
  go_wp2_with (fail)
  go_ret
  rw [KV.out, ← K3.out]
  exact ⟨rfl, hb.trans (hb2.mono hb.size)⟩
theorem or_low (n : Nat) (hn : n < 256) : bits .or .u64 (n : Int) 20992 = ((n + 20992 : Nat) : Int) := by
  rw [show (20992 : Int) = ((20992 : Nat) : Int) from rfl, u64_or_nat _ _ (by omega) (by omega)]
  congr 1
  have := Nat.two_pow_add_eq_or_of_lt (i := 8) (show n < 2 ^ 8 by simpa using hn) 82
  rw [Nat.or_comm, show (20992 : Nat) = 2 ^ 8 * 82 from rfl, ← this, Nat.add_comm]
theorem or_high (a x : Nat) (ha : a < 4294967296) (hx : x < 4294967296) : bits .or .u64 ((a : Nat) : Int) ((x : Int) * 4294967296) = ((a + 4294967296 * x : Nat) : Int) := by
  rw [show ((x : Int) * 4294967296) = ((x * 4294967296 : Nat) : Int) by simp, u64_or_nat _ _ (by omega) (by omega)]
  congr 1
  have := Nat.two_pow_add_eq_or_of_lt (i := 32) (show a < 2 ^ 32 by simpa using ha) x
  rw [Nat.or_comm, Nat.mul_comm x, show (4294967296 : Nat) = 2 ^ 32 from rfl, ← this, Nat.add_comm]
set_option maxRecDepth 100000 in
theorem commit_calls (A : Option Addr) (l : List Nat) (c : Nat) (w : World) (hr : Row w A l) (hl : Wd l) (hlen : l.length ≤ 128) (hT : TabAt w) :
    Calls Tryd.prog 21 #[.slice A l.length c] w fun e w' => e = .returned (.int .u64 (commitW l : Nat)) ∧ Below w.heap.size w w' := by
  have hx := wordsV_lt hl.mem
  have KV := Lib.hid (show commitW l = l.length / 2 + 20992 + 4294967296 * wordsV l from rfl)
  have CW := Lib.hid (words_calls A l c w hr hl hl.mem (by omega) hT)
  have k1 := or_low (l.length / 2) (by omega)
  have K3 := Lib.hid (or_high (l.length / 2 + 20992) _ (by omega) hx)
  clear hr hl
  obtain ⟨x, hX⟩ : ∃ x, wordsV l = x := ⟨_, rfl⟩
  rw [hX] at hx K3 CW KV
  clear hX
  have k2 := (commit_sum 0 x (by omega) hx).2.1
  have k5 : (l.length : Int) / 2 = ((l.length / 2 : Nat) : Int) := by omega
  have k6 : IntKind.u64.wrap ((l.length / 2 : Nat) : Int) = ((l.length / 2 : Nat) : Int) := by rw [IntKind.wrap_u64]; omega
  have HH := Lib.hid hlen
  generalize l.length / 2 = h at *
  go_enter Tryd.func21, Tryd.ntmps21
  go_wp2_with (fail)
  refine CW.out.mono ?_
  rintro e w2 ⟨rfl, hb2⟩
  go_wp2_with (fail)
  go_ret
  rw [KV.out, ← K3.out]
  exact ⟨by simp, hb2⟩
/-- What Lay answers. -/
def layL (L : List Re) : List Nat := if rmayE L = 0 then bodyL L else []
def layC (L : List Re) : Nat := if rmayE L = 0 then commitN L else 0
theorem layL_yes {L : List Re} (h : rmayE L = 0) : layL L = bodyL L := if_pos h
theorem layC_yes {L : List Re} (h : rmayE L = 0) : layC L = commitN L := if_pos h
theorem layL_no {L : List Re} (h : rmayE L ≠ 0) : layL L = [] := if_neg h
theorem layC_no {L : List Re} (h : rmayE L ≠ 0) : layC L = 0 := if_neg h
def LayP (L : List Re) (w : World) (e : Ending) (w' : World) : Prop :=
  ∃ R cr, e = .returned (.tuple #[.slice R (layL L).length cr, .int .u64 (layC L : Nat), .int .i64 (rmayE L)]) ∧ MineW w w' R (layL L).length cr (layL L) ∧ Below w.heap.size w w'
theorem LayP.no {L : List Re} {w w' : World} {E : Int} (h : rmayE L = E) (h0 : E ≠ 0) (hb : Below w.heap.size w w') : LayP L w (.returned (.tuple #[.slice none 0 0, .int .u64 0, .int .i64 E])) w' := by
  have h1 : rmayE L ≠ 0 := by rw [h]; exact h0
  refine ⟨none, 0, ?_, ?_, hb⟩
  · rw [layL_no h1, layC_no h1, h]; rfl
  · rw [layL_no h1]; exact MineW.nil _ _
theorem LayP.yes {L : List Re} {w w' : World} {R : Option Addr} {m cr : Nat} (h : rmayE L = 0) (hm : (bodyL L).length = m) (hr : MineW w w' R m cr (bodyL L)) (hb : Below w.heap.size w w') : LayP L w (.returned (.tuple #[.slice R m cr, .int .u64 (commitN L : Nat), .int .i64 0])) w' := by
  refine ⟨R, cr, ?_, ?_, hb⟩
  · rw [layL_yes h, layC_yes h, h, hm]
  · rw [layL_yes h, hm]; exact hr
theorem good_of {L : List Re} (hn : RN L) (h : GoodTo L L.length) : GoodR L := fun k hk => ⟨(h k hk).1, (h k hk).2, (hn k hk).2.2⟩
theorem good_may {L : List Re} (hn : RN L) (h : rmayE L = 0) : GoodR L := good_of hn fun j hj => (rmay_0 h).2 j hj
set_option maxRecDepth 100000 in
set_option maxHeartbeats 1000000 in
theorem lay_calls (A : Option Addr) (L : List Re) (c : Nat) (w : World) (ha : Cel w A (ev L)) (hn : RN L) (hlen : L.length ≤ 9223372036854775807) (hT : TabAt w) :
    Calls Tryd.prog 10 #[.slice A L.length c] w (LayP L w) := by
  have HT := Lib.hid hT
  have HRN := Lib.hid hn
  obtain ⟨n, hLn⟩ : ∃ n, L.length = n := ⟨_, rfl⟩
  have HL := Lib.hid hLn
  rw [hLn]
  by_cases hl : 64 < L.length
  · have KV := Lib.hid (rmay_long hl)
    rw [hLn] at hl
    clear hLn hlen hn hT
    go_enter Tryd.func10, Tryd.ntmps10
    go_wp2
    exact bodyPost_ret (v := .tuple #[.slice none 0 0, .int .u64 0, .int .i64 5]) (by simp [results, Tryd.results10, go_sem]) rfl (LayP.no KV.out (by decide) (Below.refl _ _))
  have HN := Lib.hid hl
  rw [hLn] at hl
  obtain ⟨i0, hi0, hz0, hs0, hb0⟩ := info_parts u64_info
  have HI := Lib.hid hi0
  have HZ := Lib.hid hz0
  have HS := Lib.hid hs0
  have HB := Lib.hid hb0
  clear hi0 hz0 hs0 hb0 hLn hlen hn hT
  go_enter Tryd.func10, Tryd.ntmps10
  go_wp2_with (fail)
  go_loopw [2, 12] (fun out i wr => ∃ (k m : Nat) (X : List Nat) (R : Option Addr) (cr : Nat), i = .int .i64 k ∧ k ≤ n ∧ out = .slice R m cr ∧ Hid (m = 2 * k) ∧ Hid (bodyL (L.take k) = X) ∧ Hid (MineW w wr R m cr X) ∧ Below w.heap.size w wr ∧ Hid (GoodTo L k)) (fun _ i _ => n - (intOf i).toNat)
  case atStart => exact ⟨0, 0, [], none, 0, rfl, by omega, rfl, rfl, rfl, Lib.hid (MineW.nil _ _), Below.refl _ _, Lib.hid (fun j hj => absurd hj (by omega))⟩
  case round =>
    obtain ⟨k, m, X, R, cr, rfl, hk, rfl, hm, hX, hO, hBr, hs⟩ := hrel
    by_cases h1 : k < n
    · have har := ha.below hBr
      obtain ⟨b1, o1, rfl, hlb, hca⟩ := har.re (by rw [HL.out]; omega)
      obtain ⟨e1, e2⟩ := hca k (by rw [HL.out]; exact h1)
      have hL1 : k < L.length := by rw [HL.out]; exact h1
      have hbm := body_more hL1
      have HBR := Lib.hid hBr
      have hsz := hBr.size
      clear hca har
      by_cases hp0 : (L.getD k re0).pos < 0
      · have KV := Lib.hid (rmay_bad HN.out hL1 (by omega))
        clear hL1 hbm
        generalize (L.getD k re0).pos = p at *
        generalize (L.getD k re0).word = x at *
        go_wp2_with (fail)
        exact bodyPost_ret (v := .tuple #[.slice none 0 0, .int .u64 0, .int .i64 2]) (by simp [results, Tryd.results10, go_sem]) rfl (LayP.no KV.out (by decide) (HBR.out.alloc hsz _))
      · by_cases hp1 : 1048576 ≤ (L.getD k re0).pos
        · have KV := Lib.hid (rmay_bad HN.out hL1 (by omega))
          clear hL1 hbm
          generalize (L.getD k re0).pos = p at *
          generalize (L.getD k re0).word = x at *
          go_wp2_with (fail)
          exact bodyPost_ret (v := .tuple #[.slice none 0 0, .int .u64 0, .int .i64 2]) (by simp [results, Tryd.results10, go_sem]) rfl (LayP.no KV.out (by decide) (HBR.out.alloc hsz _))
        · have KV := Lib.hid (hs.out.more ⟨by omega, by omega⟩)
          obtain ⟨p, hp⟩ := Int.eq_ofNat_of_zero_le (show 0 ≤ (L.getD k re0).pos by omega)
          rw [hp] at e1 hp0 hp1 hbm
          rw [Int.toNat_natCast, hX.out] at hbm
          have HBM := Lib.hid hbm
          clear hL1 hbm hp
          generalize (L.getD k re0).word = x at *
          have hwr : IntKind.u64.wrap (p : Int) = (p : Int) := by rw [IntKind.wrap_u64]; omega
          have HM := Lib.hid (show m ≤ 128 by have := hm.out; omega)
          have d1 : decide ((p : Int) < 0) = false := by rw [decide_eq_false_iff_not]; omega
          clear hp0
          go_wp2_with (at_builtin; refine wpList_append_r rfl (.tmp 24) (.tmp 30) 25 rfl 26 i0 _ 1 8 Tryd.underlying25 HI.out HZ.out HS.out HB.out rfl R m cr (wv X) rfl (hO.out.on (on_two wr _ _)).1 ⟨wr.heap.size + 1, 0, none⟩ 2 2 (wv [p, x]) rfl rfl (cells_two (by have := heap_alloc_new (wr.alloc (.cells #[.int .i64 (p : Int), .int .u64 (x : Int)] 45)) (.cells #[.int .u64 (p : Int), .int .u64 (x : Int)] 26); rwa [World.size_alloc] at this)) (wv_one _) (by decide) (by unfold maxLen; have := HM.out; omega) (by have := HM.out; omega) ?_; intro g' c2 w1 hown2 hgr hg)
          have hst := MineW.step (by simp; omega) hO.out.2 (((HBR.out.alloc hsz _).alloc (by simp; omega)) _) hown2 hgr hg HBM.out
          go_roundw
          case rel => exact ⟨k + 1, m + 2, _, _, c2, by go_num, by omega, rfl, Lib.hid (by have := hm.out; omega), rfl, Lib.hid hst.1, hst.2, KV⟩
          case measure => simp [intOf]; omega
    · obtain rfl : k = n := by omega
      have hgt : GoodTo L L.length := by rw [HL.out]; exact hs.out
      have hgd := good_of HRN.out hgt
      have e2 : bodyL L = X := by rw [← hX.out, ← HL.out, List.take_length]
      have e1 : X.length = m := hO.out.len
      have e0 := rmay_ok HN.out hgt
      have cc := commit_calls R X cr wr hO.out.row (by rw [← e2]; exact hgd.wd) (by rw [e1]; have := hm.out; omega) (HT.out.below hBr)
      rw [e1, ← e2, commit_body] at cc
      have KF := Lib.hid (fun w1 (h1 : Below wr.heap.size wr w1) => LayP.yes (w := w) (w' := w1) (R := R) (m := m) (cr := cr) e0 (by rw [e2]; exact e1) (by rw [e2]; exact hO.out.on h1) (hBr.trans (h1.mono hBr.size)))
      have CC := Lib.hid cc
      clear cc hO hX e0 e1 e2 hgt hgd
      go_wp2_with (fail)
      refine CC.out.mono ?_
      rintro e w1 ⟨rfl, hb1⟩
      go_wp2_with (fail)
      exact bodyPost_ret (v := .tuple #[.slice R m cr, .int .u64 (commitN L : Nat), .int .i64 0]) (by simp [results, Tryd.results10, go_sem]) rfl (KF.out w1 hb1)
end Go.Proofs.YtlfpjfijlngpcaaDoor
