/- The document's own Put, Done and Load. -/
import Derived.Test.YtphjppnkackmmaaZf
set_option linter.unusedSimpArgs false
set_option linter.unusedVariables false
namespace Go.Proofs.Ytphjppnkackmmaa
open Go Go.RowKit SumMath WordMath
def ErrPost (w0 w : World) (g : Nat) (A : Option Addr) (U : List Re) (n : Int) (e : Ending) (w' : World) : Prop := e = .returned (.int .i64 n) ∧ RxT w0 w g A U w'
theorem Rx.rowlen {w0 w : World} {g : Nat} {A : Option Addr} {T : List Re} (h : Rx w0 w g A T) : T.length ≤ maxLen := by
  obtain ⟨c, _, hr⟩ := h
  have := hr.1.2.1
  have := hr.1.2.2.1
  omega
theorem Cel.only_rf {w w' : World} {g : Nat} {A B : Option Addr} {t : TypeId} {cs : Array Value} {xs : List Value} (h : Cel w B xs) (ho : Only (RF g A) w w') (h1 : ∀ ad, B = some ad → 0 < xs.length → ad.block ≠ g) (h2 : ∀ ad a, B = some ad → A = some a → ad.block ≠ a.block) : Cel w' B xs :=
  h.only ho fun ad e h0 hf => by
    rcases hf with hf | ⟨a, ea, hf⟩
    · exact h1 ad e h0 hf
    · exact h2 ad a e ea hf
set_option maxRecDepth 100000 in
theorem rPut_calls {w0 w : World} {g : Nat} {A : Option Addr} {T : List Re} (h : Rx w0 w g A T) (B : Option Addr) (L : List Re) (c : Nat) (h0 : w0.heap.size ≤ w.heap.size) (hB : Cel w0 B (ev L)) (hBw : Below w0.heap.size w0 w) (hg0 : w0.heap.size ≤ g) (hr : Rise T) (hsz : T.length + L.length ≤ 1099511627776) :
    Calls Try.prog 11 #[.pointer (some ⟨g, 0, none⟩), .slice B L.length c] w (ErrPost w0 w g A (putR T L) (putE L)) := by
  obtain ⟨n, hLn⟩ : ∃ n, L.length = n := ⟨_, rfl⟩
  have HL := Lib.hid hLn
  rw [hLn]
  rw [hLn] at hsz
  have HX := Lib.hid h
  have HRS := Lib.hid hr
  have HB0 := Lib.hid hB
  have HBW := Lib.hid hBw
  have hbw := hB.below hBw
  have HG0 := Lib.hid hg0
  clear hLn h hr hB hBw hg0
  go_enter Try.func11, Try.ntmps11
  go_wp2_with (fail)
  go_loop [5] (fun i => ∃ k : Nat, i = .int .i64 k ∧ k ≤ n ∧ Hid (NNTo L k)) (fun i => n - (intOf i).toNat)
  case atStart => exact ⟨0, rfl, by omega, Lib.hid (fun j hj => absurd hj (by omega))⟩
  case round =>
    obtain ⟨k, rfl, hk, hs⟩ := hrel
    by_cases h1 : k < n
    · obtain ⟨b1, o1, rfl, hlb, hca⟩ := hbw.re (by rw [HL.out]; omega)
      obtain ⟨e1, _⟩ := hca k (by rw [HL.out]; exact h1)
      have hL1 : k < L.length := by rw [HL.out]; exact h1
      clear hca hbw
      by_cases hp : (L.getD k re0).pos < 0
      · have KV := Lib.hid (negB_yes hL1 hp)
        clear hL1
        generalize (L.getD k re0).pos = p at *
        go_wp2_with (fail)
        go_ret
        refine ⟨?_, ?_⟩
        · unfold putE; rw [KV.out]; rfl
        · unfold putR; rw [KV.out]; exact RxT.self HX.out (Below.refl _ _)
      · have KV := Lib.hid (hs.out.more (by omega))
        clear hL1
        generalize (L.getD k re0).pos = p at *
        go_wp2_with (fail)
        go_round
        case rel => exact ⟨k + 1, by go_num, by omega, KV⟩
        case measure => simp [intOf]; omega
    · obtain rfl : n = k := by omega
      have KV := Lib.hid (negB_no (by rw [HL.out]; exact hs.out))
      clear hs hbw
      go_wp2_with (fail)
      go_loopw [6] (fun i wr => ∃ k : Nat, i = .int .i64 k ∧ k ≤ n ∧ Hid (RxT w0 w g A (putsT T (L.take k)) wr)) (fun i _ => n - (intOf i).toNat)
      case atStart => exact ⟨0, rfl, by omega, Lib.hid (RxT.self HX.out (Below.refl _ _))⟩
      case round =>
        obtain ⟨k, rfl, hk, hx⟩ := hrel
        by_cases h1 : k < n
        · obtain ⟨A', hx1, hx2, hx3⟩ := hx.out
          have hb2 : Below w0.heap.size w0 wr := HBW.out.trans (hx2.below h0 fun i hi => by
            rcases hi with rfl | ⟨ad, e, rfl⟩
            · exact HG0.out
            · obtain ⟨_, _, hm⟩ := HX.out
              exact hm.2 ad e)
          have har := HB0.out.below hb2
          obtain ⟨b1, o1, rfl, hlb, hca⟩ := har.re (by rw [HL.out]; omega)
          obtain ⟨e1, e2⟩ := hca k (by rw [HL.out]; exact h1)
          have hL1 : k < L.length := by rw [HL.out]; exact h1
          have hst := Lib.hid (puts_take (T := T) hL1)
          have hln := puts_len (T := T) (L := L.take k) HRS.out
          have hTk : (L.take k).length = k := by rw [List.length_take]; omega
          rw [hTk] at hln
          generalize L.getD k re0 = q at *
          obtain ⟨p, x⟩ := q
          simp only at e1 e2
          have hcall := Lib.hid (rput_calls hx1 p x hb2.size (by omega))
          have HX2 := Lib.hid hx2
          have HX3 := Lib.hid hx3
          clear hca har hL1 hTk hln hx1 hx2 hx3 hb2 hx
          go_wp2_with (go_at_call 19; refine hcall.out.mono ?_; rintro e w' ⟨rfl, hq⟩; replace hq := Lib.hid hq)
          have hf := RxT.trans HX2.out HX3.out hq.out
          rw [← hst.out] at hf
          go_roundw
          case rel => exact ⟨k + 1, by go_num, by omega, Lib.hid hf⟩
          case measure => simp [intOf]; omega
        · obtain rfl : n = k := by omega
          have hf := hx.out
          rw [show n = L.length from HL.out.symm, List.take_length] at hf
          have HF := Lib.hid hf
          clear hf hx
          go_wp2_with (fail)
          go_ret
          refine ⟨?_, ?_⟩
          · unfold putE; rw [KV.out]; rfl
          · unfold putR; rw [KV.out]; exact HF.out
theorem hasT_take {T : List Re} {p : Int} : (delT T p).length = T.length ↔ hasT T p = false := by
  constructor
  · intro h
    cases hh : hasT T p with
    | false => rfl
    | true =>
      exfalso
      have : ∀ {T : List Re}, hasT T p = true → (delT T p).length < T.length := by
        intro T
        induction T with
        | nil => intro h; cases h
        | cons e r ih =>
          intro h
          by_cases c : e.pos = p
          · have e1 : delT (e :: r) p = delT r p := by unfold delT; rw [List.filter_cons_of_neg (by simp [c])]
            rw [e1, List.length_cons]
            have : (delT r p).length ≤ r.length := List.length_filter_le _ _
            omega
          · have e1 : delT (e :: r) p = e :: delT r p := by unfold delT; rw [List.filter_cons_of_pos (by simp [c])]
            have h2 : hasT r p = true := by
              unfold hasT at h ⊢
              have h : (if e.pos = p then some e.word else lkT r p).isSome = true := h
              rwa [if_neg c] at h
            rw [e1, List.length_cons, List.length_cons]
            have := ih h2
            omega
      have := this hh
      omega
  · intro h; rw [del_none h]
theorem del_le (T : List Re) (p : Int) : (delT T p).length ≤ T.length := List.length_filter_le _ _
set_option maxRecDepth 100000 in
theorem rDone_calls {w0 w : World} {g : Nat} {A : Option Addr} {T : List Re} (h : Rx w0 w g A T) (p : Int) (h0 : w0.heap.size ≤ w.heap.size) (hsz : T.length ≤ 1099511627776) :
    Calls Try.prog 14 #[.pointer (some ⟨g, 0, none⟩), .int .i64 p] w (ErrPost w0 w g A (delT T p) (doneE T p)) := by
  have HX := Lib.hid h
  have hgl := h.ltg
  obtain ⟨c, hg, hr⟩ := h
  obtain ⟨n, hTn⟩ : ∃ n, T.length = n := ⟨_, rfl⟩
  have HL := Lib.hid hTn
  rw [hTn] at hg hr hsz
  have HR := Lib.hid hr
  have HG := Lib.hid hg
  have HC := Lib.hid hr.cel
  obtain ⟨i0, hi0, hz0, hs0, hb0⟩ := info_parts redo_info
  have HI := Lib.hid hi0
  have HZ := Lib.hid hz0
  have HS := Lib.hid hs0
  have HB := Lib.hid hb0
  clear hr hg hTn hi0 hz0 hs0 hb0
  go_enter Try.func14, Try.ntmps14
  go_wp2_with (fail)
  go_loopw [5, 6] (fun out i wr => ∃ (k m : Nat) (X : List Re) (R : Option Addr) (cr : Nat), i = .int .i64 k ∧ k ≤ n ∧ m ≤ k ∧ out = .slice R m cr ∧ Hid (X.length = m) ∧ Hid (delT (T.take k) p = X) ∧ Hid (MineR w wr R m cr X) ∧ Below w.heap.size w wr) (fun _ i _ => n - (intOf i).toNat)
  case atStart => exact ⟨0, 0, [], none, 0, rfl, by omega, by omega, rfl, rfl, rfl, Lib.hid (MineR.nil _ _), Below.refl _ _⟩
  case round =>
    obtain ⟨k, m, X, R, cr, rfl, hk, hmk, rfl, hm, hX, hO, hBr⟩ := hrel
    have v0 : wr.cell? ⟨g, 0, none⟩ = some (.slice A n c) := (hBr.cell (p := ⟨g, 0, none⟩) hgl).trans (by rw [cell_of_row w g 0 _ _ _ HG.out]; rfl)
    by_cases h1 : k < n
    · have har := HC.out.below hBr
      obtain ⟨b1, o1, rfl, hlb, hca⟩ := har.re (by rw [HL.out]; omega)
      obtain ⟨e1, e2⟩ := hca k (by rw [HL.out]; exact h1)
      have hdm := del_more (T := T) (k := k) (by rw [HL.out]; exact h1) p
      rw [hX.out] at hdm
      have HBR := Lib.hid hBr
      have hsz2 := hBr.size
      clear hca har
      generalize L0 : T.getD k re0 = q at *
      clear L0
      obtain ⟨y, x⟩ := q
      simp only at e1 e2
      by_cases hp : y = p
      · subst hp
        rw [if_pos rfl, List.append_nil] at hdm
        have HD := Lib.hid hdm
        clear hdm
        go_wp2_with (fail)
        go_roundw
        case rel => exact ⟨k + 1, m, X, R, cr, by go_num, by omega, by omega, rfl, hm, HD, hO, HBR.out⟩
        case measure => simp [intOf]; omega
      · have hpn : ¬ (y = p) := hp
        rw [if_neg hp] at hdm
        have HD := Lib.hid hdm
        clear hdm hBr
        go_wp2_with (at_builtin; refine wpList_append_r rfl (.tmp 26) (.tmp 34) 28 rfl 38 i0 _ 2 16 Try.underlying28 HI.out HZ.out HS.out HB.out rfl R m cr (ev X) rfl (hO.out.1.keep fun ad e => Below.heap_alloc _ _ _ (hO.out.1.lt ad e)) ⟨wr.heap.size, 0, none⟩ 1 1 (ev [⟨y, x⟩]) rfl rfl (cells_re (heap_alloc_new _ _)) (ev_one _) (by decide) (by unfold maxLen; omega) (by omega) ?_; intro g2 c2 w2 hO2 hG2 hE2)
        obtain ⟨hM2, hb2⟩ := MineR.step (by simp; omega) hO.out.2 (HBR.out.alloc HBR.out.size _) hO2 hG2 hE2 rfl
        go_roundw
        case rel => exact ⟨k + 1, m + 1, X ++ [⟨y, x⟩], _, c2, by go_num, by omega, by omega, rfl, Lib.hid (by rw [List.length_append]; rw [hm.out]; rfl), HD, Lib.hid hM2, hb2⟩
        case measure => simp [intOf]; omega
    · obtain rfl : n = k := by omega
      have hXa := hX.out
      rw [← HL.out, List.take_length] at hXa
      have HXA := Lib.hid hXa
      have hsame : ((m : Int) = (n : Int)) ↔ hasT T p = false := by
        rw [← hasT_take, hXa, hm.out, HL.out]; omega
      cases hh : hasT T p with
      | false =>
        have hmn : m = n := by have := hsame.2 hh; omega
        have HH := Lib.hid hh
        clear hsame hh hXa hX
        subst hmn
        have HBR := Lib.hid hBr
        clear hBr
        go_wp2_with (fail)
        go_ret
        refine ⟨?_, ?_⟩
        · unfold doneE; rw [HH.out]; rfl
        · rw [del_none HH.out]; exact RxT.self HX.out HBR.out
      | true =>
        have hmn : ¬ (m = n) := fun e => by have := hsame.1 (by omega); rw [hh] at this; cases this
        have HH := Lib.hid hh
        clear hsame hh hXa hX
        have hh3 := (hBr.block g hgl).trans HG.out
        have z4 : wr.frozen? ⟨g, 0, none⟩ = false := frozen_of hh3
        have HBR := Lib.hid hBr
        clear hh3 hBr
        go_wp2_with (fail)
        go_ret
        refine ⟨?_, ?_⟩
        · unfold doneE; rw [HH.out]; rfl
        · rw [HXA.out]
          exact RxT.fresh HX.out h0 HBR.out hO.out.1 hO.out.2 hm.out.symm
set_option maxRecDepth 100000 in
theorem rLoad_calls {w0 w : World} {g : Nat} {A : Option Addr} {T : List Re} (h : Rx w0 w g A T) (p : Int) (d : Nat) (hsz : T.length ≤ 1099511627776) :
    Calls Try.prog 16 #[.pointer (some ⟨g, 0, none⟩), .int .i64 p, .int .u64 (d : Nat)] w fun e w' => e = .returned (.int .u64 (loadT T p d : Nat)) ∧ w = w' := by
  obtain ⟨c, hg, hr⟩ := h
  obtain ⟨n, hTn⟩ : ∃ n, T.length = n := ⟨_, rfl⟩
  have HL := Lib.hid hTn
  rw [hTn] at hg hr hsz
  have hgl := lt_of_cells hg
  have v0 : w.cell? ⟨g, 0, none⟩ = some (.slice A n c) := by rw [cell_of_row w g 0 _ _ _ hg]; rfl
  have hcel := hr.cel
  clear hr hg hTn
  go_enter Try.func16, Try.ntmps16
  go_wp2_with (fail)
  go_loop [7] (fun i => ∃ k : Nat, i = .int .i64 k ∧ k ≤ n ∧ Hid (∀ j, j < k → (T.getD j re0).pos ≠ p)) (fun i => n - (intOf i).toNat)
  case atStart => exact ⟨0, rfl, by omega, Lib.hid (fun j hj => absurd hj (by omega))⟩
  case round =>
    obtain ⟨k, rfl, hk, hs⟩ := hrel
    by_cases h1 : k < n
    · obtain ⟨b1, o1, rfl, hlb, hca⟩ := hcel.re (by rw [HL.out]; omega)
      obtain ⟨e1, e2⟩ := hca k (by rw [HL.out]; exact h1)
      have hlk := lk_take_miss hs.out (show k < T.length by rw [HL.out]; exact h1)
      have hsn := fun h => Lib.hid (show ∀ j, j < k + 1 → (T.getD j re0).pos ≠ p from fun j hj => by
        by_cases h2 : j < k
        · exact hs.out j h2
        · obtain rfl : j = k := by omega
          exact h)
      have HSN := Lib.hid hsn
      clear hca hcel hs hsn
      generalize L0 : T.getD k re0 = q at *
      clear L0
      obtain ⟨y, x⟩ := q
      simp only at e1 e2
      by_cases hp : y = p
      · subst hp
        rw [if_pos rfl] at hlk
        have HK := Lib.hid hlk
        clear hlk HSN
        go_wp2_with (fail)
        go_ret
        unfold loadT
        rw [HK.out]
        exact ⟨rfl, rfl⟩
      · have hpn : ¬ (y = p) := hp
        have HN2 := Lib.hid (HSN.out hp)
        clear hlk HSN
        go_wp2_with (fail)
        go_round
        case rel => exact ⟨k + 1, by go_num, by omega, HN2⟩
        case measure => simp [intOf]; omega
    · obtain rfl : n = k := by omega
      have hlk := lk_all_miss (T := T) (p := p) (by rw [HL.out]; exact hs.out)
      have HK := Lib.hid hlk
      clear hlk hs
      go_wp2_with (fail)
      go_ret
      unfold loadT
      rw [HK.out]
      exact ⟨rfl, rfl⟩
end Go.Proofs.Ytphjppnkackmmaa
