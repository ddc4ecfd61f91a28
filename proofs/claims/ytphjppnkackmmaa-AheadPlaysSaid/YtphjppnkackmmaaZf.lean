/- The document's own put. -/
import Derived.Test.YtphjppnkackmmaaZe
set_option linter.unusedSimpArgs false
set_option linter.unusedVariables false
namespace Go.Proofs.Ytphjppnkackmmaa
open Go Go.RowKit SumMath WordMath
def BelTo (T : List Re) (p : Int) (k : Nat) : Prop := ∀ j, j < k → (T.getD j re0).pos < p
theorem BelTo.more {T : List Re} {p : Int} {k : Nat} (h : BelTo T p k) (e : (T.getD k re0).pos < p) : BelTo T p (k + 1) := fun j hj => by
  by_cases h1 : j < k
  · exact h j h1
  · obtain rfl : j = k := by omega
    exact e
theorem put_set {T : List Re} {p : Int} {x k : Nat} (hb : BelTo T p k) (hk : k < T.length) (he : (T.getD k re0).pos = p) : putT T ⟨p, x⟩ = T.set k ⟨p, x⟩ := by
  rw [put_at (x := ⟨p, x⟩) (i := k) (by omega) hb (fun _ => by simp only; omega), if_pos ⟨hk, he⟩]
theorem put_new {T : List Re} {p : Int} {x k : Nat} (hb : BelTo T p k) (hk : k ≤ T.length) (h1 : k < T.length → ¬ (T.getD k re0).pos < p) (h2 : k < T.length → (T.getD k re0).pos ≠ p) : putT T ⟨p, x⟩ = T.take k ++ ⟨p, x⟩ :: T.drop k := by
  rw [put_at (x := ⟨p, x⟩) (i := k) hk hb h1, if_neg (fun h => h2 h.1 h.2)]
def PutPost (w0 w : World) (g : Nat) (A : Option Addr) (U : List Re) (e : Ending) (w' : World) : Prop := e = .returned (.tuple #[]) ∧ RxT w0 w g A U w'
set_option maxRecDepth 100000 in
set_option maxHeartbeats 2000000 in
theorem rput_calls {w0 w : World} {g : Nat} {A : Option Addr} {T : List Re} (h : Rx w0 w g A T) (p : Int) (x : Nat) (h0 : w0.heap.size ≤ w.heap.size) (hsz : T.length ≤ 1099511627776) :
    Calls Try.prog 19 #[.pointer (some ⟨g, 0, none⟩), .agg #[.int .i64 p, .int .u64 (x : Int)]] w (PutPost w0 w g A (putT T ⟨p, x⟩)) := by
  have HX := Lib.hid h
  have hgl := h.ltg
  obtain ⟨c, hg, hr⟩ := h
  obtain ⟨n, hTn⟩ : ∃ n, T.length = n := ⟨_, rfl⟩
  have HL := Lib.hid hTn
  rw [hTn] at hg hr hsz
  have hnc := hr.1.2.1
  have HR := Lib.hid hr
  have HG := Lib.hid hg
  have hcel := hr.cel
  clear hr hg hTn
  go_enter Try.func19, Try.ntmps19
  go_wp2_with (fail)
  obtain ⟨V, hV⟩ : ∃ V, V = w.alloc (.cells #[.int .i64 p, .int .u64 (x : Int)] 38) := ⟨_, rfl⟩
  have hbV : Below w.heap.size w V := by rw [hV]; exact (Below.refl _ _).alloc (Nat.le_refl _) _
  have hVr : V.heap[w.heap.size]? = some (.cells #[.int .i64 p, .int .u64 (x : Int)] 38 (0, 0)) := by rw [hV]; exact heap_alloc_new _ _
  have v0 : V.cell? ⟨g, 0, none⟩ = some (.slice A n c) := (hbV.cell (p := ⟨g, 0, none⟩) hgl).trans (by rw [cell_of_row w g 0 _ _ _ HG.out]; rfl)
  have v1 : V.cell? ⟨w.heap.size, 0, none⟩ = some (.int .i64 p) := by rw [cell_of_row V _ 0 _ _ _ hVr]; rfl
  have v2 : V.cell? ⟨w.heap.size, 1, none⟩ = some (.int .u64 (x : Int)) := by rw [cell_of_row V _ 1 _ _ _ hVr]; rfl
  have HC := Lib.hid (hcel.below hbV)
  rw [← hV]
  have HBV := Lib.hid hbV
  have HVR := Lib.hid hVr
  clear hV hbV hVr hcel
  go_loopw [4] (fun i wr => ∃ k q : Nat, i = .int .i64 k ∧ k ≤ n ∧ Hid (BelTo T p k) ∧ wr = V.drewN q) (fun i _ => n - (intOf i).toNat)
  case atStart => exact ⟨0, 0, rfl, by omega, Lib.hid (fun j hj => absurd hj (by omega)), rfl⟩
  case round =>
    obtain ⟨k, q, rfl, hk, hs, rfl⟩ := hrel
    by_cases h1 : k < n
    · have har := HC.out
      obtain ⟨b1, o1, rfl, hlb, hca⟩ := har.re (by rw [HL.out]; omega)
      obtain ⟨e1, e2⟩ := hca k (by rw [HL.out]; exact h1)
      have hL1 : k < T.length := by rw [HL.out]; exact h1
      have HK1 := Lib.hid hL1
      clear hca har hL1
      have d1 : decide ((k : Int) < (n : Int)) = true := decide_eq_true (by omega)
      by_cases hp : (T.getD k re0).pos < p
      · have KV := Lib.hid (hs.out.more hp)
        generalize (T.getD k re0).pos = y at *
        go_wp2_with (fail)
        go_quiet (fail)
        go_wp2_with (fail)
        go_roundw
        case rel => exact ⟨k + 1, _, by go_num, by omega, KV, rfl⟩
        case measure => simp [intOf]; omega
      · have HP := Lib.hid hp
        have d2 : decide ((T.getD k re0).pos < p) = false := decide_eq_false hp
        by_cases he : (T.getD k re0).pos = p
        · have HE := Lib.hid he
          have d3 : ((T.getD k re0).pos == p) = true := by rw [he]; exact beq_self_eq_true p
          clear he hp
          obtain rfl : o1 = 0 := by
            obtain ⟨gg, hgg, _⟩ := HR.out.1.head (by omega)
            injection hgg with hgg
            injection hgg
          have HU := Lib.hid (put_set (x := x) hs.out HK1.out HE.out)
          rw [Nat.zero_add] at e1 e2
          have hfz : V.frozen? ⟨b1, k * 2 + 1, none⟩ = false := by
            obtain ⟨gg, hgg, cur, hcur⟩ := HR.out.1.head (by omega)
            injection hgg with hgg
            injection hgg with hgg
            subst hgg
            exact frozen_of (((HBV.out.block b1 (lt_of_cells hcur)).trans hcur))
          have HF0 := Lib.hid (fun (u : World) (hb : Below w.heap.size w u) => RxT.word (x := x) HX.out hb HK1.out HE.out)
          rw [HL.out] at HK1
          generalize (T.getD k re0).pos = y at *
          go_wp2_with (fail)
          go_quiet (fail)
          generalize nq = q1 at *
          go_wp2_with (fail)
          go_quiet (fail)
          go_wp2_with (fail)
          obtain ⟨U, hU⟩ : ∃ U, U = ((V.drewN q).drewN q1).drewN nq := ⟨_, rfl⟩
          have u0 : U.cell? ⟨g, 0, none⟩ = some (.slice (some ⟨b1, 0, none⟩) n c) := by rw [hU]; exact v0
          have u2 : U.cell? ⟨w.heap.size, 1, none⟩ = some (.int .u64 (x : Int)) := by rw [hU]; exact v2
          have u4 : U.frozen? ⟨b1, k * 2 + 1, none⟩ = false := by rw [hU]; exact hfz
          have HF := Lib.hid (HF0.out U.drew (by rw [hU]; exact (below_drewN (below_drewN (below_drewN HBV.out q) q1) nq).drew))
          have u5 : U.cell? ⟨b1, k * 2 + 1, none⟩ = some (.int .u64 ((T.getD k re0).word : Int)) := by rw [hU]; exact e2
          generalize (T.getD k re0).word = old at *
          rw [← hU]
          clear hU v0 v1 v2 hfz e1 e2
          go_still_tail 9, (by kernel_rfl)
          change wpList _ _ _ _ _ U.drew
          go_wp2_with (fail)
          (try simp only [Exit.inBlock, Exit.then])
          refine bodyPost_ret (results_none rfl _ _ _) rfl ?_
          rw [HU.out]
          exact ⟨rfl, HF.out⟩
        · have d3 : ((T.getD k re0).pos == p) = false := by rw [beq_eq_false_iff_ne]; exact he
          have HU := Lib.hid (put_new (x := x) hs.out (Nat.le_of_lt HK1.out) (fun _ => HP.out) (fun _ => he))
          clear he hp
          obtain rfl : o1 = 0 := by
            obtain ⟨gg, hgg, _⟩ := HR.out.1.head (by omega)
            injection hgg with hgg
            injection hgg
          rw [Nat.zero_add] at e1
          clear e2
          generalize (T.getD k re0).pos = y at *
          obtain ⟨i0, hi0, hz0, hs0, hb0⟩ := info_parts redo_info
          have HI := Lib.hid hi0
          have HZ := Lib.hid hz0
          have HS := Lib.hid hs0
          have HB := Lib.hid hb0
          have HTK := Lib.hid (show (T.take k).length = k by rw [List.length_take]; have := HL.out; omega)
          have HTL := Lib.hid (show (T.take k).length ≤ 1099511627776 by rw [List.length_take]; omega)
          have HGV := Lib.hid (show g < V.heap.size from Nat.lt_of_lt_of_le hgl HBV.out.size)
          have HWV := Lib.hid (lt_of_cells HVR.out)
          have HDL := Lib.hid (show (ev (T.drop k)).length = (n - k) * 2 by rw [ev_length, List.length_drop, HL.out])
          have HEV := Lib.hid (show ev (T.take k ++ [⟨p, x⟩]) ++ ev (T.drop k) = ev (T.take k ++ ⟨p, x⟩ :: T.drop k) by rw [← ev_append, List.append_assoc]; rfl)
          have HLN := Lib.hid (show k + 1 + (n - k) = (T.take k ++ (⟨p, x⟩ : Re) :: T.drop k).length by rw [List.length_append, List.length_cons, List.length_drop, HTK.out, HL.out]; omega)
          have hkc : k ≤ c := by omega
          have hkn : k ≤ n := by omega
          have hck : ¬ (c = k) := by omega
          clear hi0 hz0 hs0 hb0
          go_wp2_with (fail)
          go_quiet (fail)
          generalize nq = q1 at *
          go_wp2_with (fail)
          go_quiet (fail)
          obtain ⟨U, hU⟩ : ∃ U, U = ((V.drewN q).drewN q1).drewN nq := ⟨_, rfl⟩
          have u0 : U.cell? ⟨g, 0, none⟩ = some (.slice (some ⟨b1, 0, none⟩) n c) := by rw [hU]; exact v0
          have u1 : U.cell? ⟨w.heap.size, 0, none⟩ = some (.int .i64 p) := by rw [hU]; exact v1
          have u2 : U.cell? ⟨w.heap.size, 1, none⟩ = some (.int .u64 (x : Int)) := by rw [hU]; exact v2
          have HCU := Lib.hid (show Cel U (some ⟨b1, 0, none⟩) (ev T) by rw [hU]; exact HC.out)
          have HBU := Lib.hid (show Below w.heap.size w U by rw [hU]; exact below_drewN (below_drewN (below_drewN HBV.out q) q1) nq)
          have HGU := Lib.hid (show g < U.heap.size by rw [hU]; exact HGV.out)
          have HWU := Lib.hid (show w.heap.size < U.heap.size by rw [hU]; exact HWV.out)
          rw [← hU]
          clear hU v0 v1 v2 e1
          go_wp2_with (first
            | (at_builtin; refine wpList_rcl rfl (.tmp 57) (.tmp 63) rfl (some ⟨b1, 0, none⟩) (T.take k) k c HTK.out rfl rfl (HCU.out.take k) HTL.out ?_; intro B cB w1 hO1 hb1; replace hO1 := Lib.hid hO1; have y1 := (hb1.cell (p := ⟨w.heap.size, 0, none⟩) HWU.out).trans u1; have y2 := (hb1.cell (p := ⟨w.heap.size, 1, none⟩) HWU.out).trans u2; replace hb1 := Lib.hid hb1)
            | (at_builtin; refine wpList_append_r rfl (.tmp 65) (.tmp 67) 28 rfl 38 i0 _ 2 16 Try.underlying28 HI.out HZ.out HS.out HB.out rfl B k cB (ev (T.take k)) rfl (hO1.out.1.keep fun ad e => Below.heap_alloc _ _ _ (hO1.out.1.lt ad e)) ⟨w1.heap.size, 0, none⟩ 1 1 (ev [⟨p, x⟩]) rfl rfl (cells_re (heap_alloc_new _ _)) (ev_one _) (by decide) (by unfold maxLen; omega) (by omega) ?_; intro g2 c2 w2 hO2 hG2 hE2; obtain ⟨hM2, hb2⟩ := MineR.step (by have := hb1.out.size; simp; omega) hO1.out.2 (hb1.out.alloc hb1.out.size _) hO2 hG2 hE2 rfl; have z0 := (hb2.cell (p := ⟨g, 0, none⟩) HGU.out).trans u0; clear hO2 hG2 hE2 y1 y2; replace hM2 := Lib.hid hM2; replace hb2 := Lib.hid hb2)
            | (at_builtin; refine wpList_app_any rfl (.tmp 70) (.tmp 76) 28 rfl 38 i0 _ 2 16 Try.underlying28 HI.out HZ.out HS.out HB.out rfl g2 (k + 1) c2 (ev (T.take k ++ [⟨p, x⟩])) rfl hM2.out.1 (some ⟨b1, k * 2, none⟩) (n - k) _ (ev (T.drop k)) rfl HDL.out (fun h => by cases h) (fun a e => by injection e with e; subst e; exact Cel.drop (HCU.out.below hb2.out) k) (ev_one _) (by unfold maxLen; omega) (by omega) ?_; intro g3 c3 w3 hO3 hG3 hE3; have hb3 := hb2.out.grown hG3 hb2.out.size (fun j e => by injection e with e; rw [← e]; exact hM2.out.2 _ rfl); have hh3 := (hb3.block g HGU.out).trans ((HBU.out.block g hgl).trans HG.out); have z3 : w3.cell? ⟨g, 0, none⟩ = some (.slice (some ⟨b1, 0, none⟩) n c) := (by rw [cell_of_row w3 g 0 _ _ _ hh3]; rfl); have z4 : w3.frozen? ⟨g, 0, none⟩ = false := frozen_of hh3; clear hh3; replace hO3 := Lib.hid hO3; replace hE3 := Lib.hid hE3; replace hb3 := Lib.hid hb3)
            | fail)
          go_end0
          have hB3 : ∀ ad, (some ⟨g3, 0, none⟩ : Option Addr) = some ad → w.heap.size ≤ ad.block := fun ad e => by
            injection e with e
            subst e
            have h1 := hM2.out.2 _ rfl
            have h2 := HBU.out.size
            have h3 := hb2.out.size
            rcases hE3.out with h | h
            · simp only at h1 ⊢; omega
            · simp only; omega
          rw [HU.out]
          exact ⟨rfl, RxT.fresh HX.out h0 (HBU.out.trans (hb3.out.mono HBU.out.size)) (by rw [← HEV.out]; exact hO3.out) hB3 HLN.out⟩
    · obtain rfl : n = k := by omega
      have d1 : decide ((n : Int) < (n : Int)) = false := decide_eq_false (by omega)
      have HU := Lib.hid (put_new (x := x) hs.out (by rw [HL.out]; exact Nat.le_refl _) (fun h => absurd h (by rw [HL.out]; exact Nat.lt_irrefl _)) (fun h => absurd h (by rw [HL.out]; exact Nat.lt_irrefl _)))
      rcases A with _ | ad
      · obtain rfl : c = 0 := by
          obtain ⟨_, _, _, h4⟩ := HR.out.1
          rcases h4 with ⟨_, h4⟩ | ⟨g', cur, h4, _⟩
          · exact h4
          · cases h4
        obtain rfl : n = 0 := by omega
        obtain ⟨i0, hi0, hz0, hs0, hb0⟩ := info_parts redo_info
        have HI := Lib.hid hi0
        have HZ := Lib.hid hz0
        have HS := Lib.hid hs0
        have HB := Lib.hid hb0
        have HTK := Lib.hid (show (T.take 0).length = 0 by rw [List.length_take]; have := HL.out; omega)
        have HTL := Lib.hid (show (T.take 0).length ≤ 1099511627776 by rw [List.length_take]; omega)
        have HGV := Lib.hid (show g < V.heap.size from Nat.lt_of_lt_of_le hgl HBV.out.size)
        have HWV := Lib.hid (lt_of_cells HVR.out)
        have HDL := Lib.hid (show (ev (T.drop 0)).length = (0 - 0) * 2 by rw [ev_length, List.length_drop, HL.out])
        have HEV := Lib.hid (show ev (T.take 0 ++ [⟨p, x⟩]) ++ ev (T.drop 0) = ev (T.take 0 ++ ⟨p, x⟩ :: T.drop 0) by rw [← ev_append, List.append_assoc]; rfl)
        have HLN := Lib.hid (show 0 + 1 + (0 - 0) = (T.take 0 ++ (⟨p, x⟩ : Re) :: T.drop 0).length by rw [List.length_append, List.length_cons, List.length_drop, HTK.out, HL.out])

        clear hi0 hz0 hs0 hb0
        go_wp2_with (fail)
        go_quiet (fail)
        generalize nq = q1 at *
        go_wp2_with (fail)
        go_quiet (fail)
        obtain ⟨U, hU⟩ : ∃ U, U = ((V.drewN q).drewN q1).drewN nq := ⟨_, rfl⟩
        have u0 : U.cell? ⟨g, 0, none⟩ = some (.slice none 0 0) := by rw [hU]; exact v0
        have u1 : U.cell? ⟨w.heap.size, 0, none⟩ = some (.int .i64 p) := by rw [hU]; exact v1
        have u2 : U.cell? ⟨w.heap.size, 1, none⟩ = some (.int .u64 (x : Int)) := by rw [hU]; exact v2
        have HCU := Lib.hid (show Cel U none (ev T) by rw [hU]; exact HC.out)
        have HBU := Lib.hid (show Below w.heap.size w U by rw [hU]; exact below_drewN (below_drewN (below_drewN HBV.out q) q1) nq)
        have HGU := Lib.hid (show g < U.heap.size by rw [hU]; exact HGV.out)
        have HWU := Lib.hid (show w.heap.size < U.heap.size by rw [hU]; exact HWV.out)
        rw [← hU]
        clear hU v0 v1 v2
        go_wp2_with (first
          | (at_builtin; refine wpList_rcl rfl (.tmp 57) (.tmp 63) rfl none (T.take 0) 0 0 HTK.out rfl rfl (HCU.out.take 0) HTL.out ?_; intro B cB w1 hO1 hb1; replace hO1 := Lib.hid hO1; have y1 := (hb1.cell (p := ⟨w.heap.size, 0, none⟩) HWU.out).trans u1; have y2 := (hb1.cell (p := ⟨w.heap.size, 1, none⟩) HWU.out).trans u2; replace hb1 := Lib.hid hb1)
          | (at_builtin; refine wpList_append_r rfl (.tmp 65) (.tmp 67) 28 rfl 38 i0 _ 2 16 Try.underlying28 HI.out HZ.out HS.out HB.out rfl B 0 cB (ev (T.take 0)) rfl (hO1.out.1.keep fun ad e => Below.heap_alloc _ _ _ (hO1.out.1.lt ad e)) ⟨w1.heap.size, 0, none⟩ 1 1 (ev [⟨p, x⟩]) rfl rfl (cells_re (heap_alloc_new _ _)) (ev_one _) (by decide) (by unfold maxLen; omega) (by omega) ?_; intro g2 c2 w2 hO2 hG2 hE2; obtain ⟨hM2, hb2⟩ := MineR.step (by have := hb1.out.size; simp; omega) hO1.out.2 (hb1.out.alloc hb1.out.size _) hO2 hG2 hE2 rfl; have z0 := (hb2.cell (p := ⟨g, 0, none⟩) HGU.out).trans u0; clear hO2 hG2 hE2 y1 y2; replace hM2 := Lib.hid hM2; replace hb2 := Lib.hid hb2)
          | (at_builtin; refine wpList_app_any rfl (.tmp 70) (.tmp 76) 28 rfl 38 i0 _ 2 16 Try.underlying28 HI.out HZ.out HS.out HB.out rfl g2 (0 + 1) c2 (ev (T.take 0 ++ [⟨p, x⟩])) rfl hM2.out.1 none (0 - 0) _ (ev (T.drop 0)) rfl HDL.out (fun _ => by omega) (fun a e => by cases e) (ev_one _) (by unfold maxLen; omega) (by omega) ?_; intro g3 c3 w3 hO3 hG3 hE3; have hb3 := hb2.out.grown hG3 hb2.out.size (fun j e => by injection e with e; rw [← e]; exact hM2.out.2 _ rfl); have hh3 := (hb3.block g HGU.out).trans ((HBU.out.block g hgl).trans HG.out); have z3 : w3.cell? ⟨g, 0, none⟩ = some (.slice none 0 0) := (by rw [cell_of_row w3 g 0 _ _ _ hh3]; rfl); have z4 : w3.frozen? ⟨g, 0, none⟩ = false := frozen_of hh3; clear hh3; replace hO3 := Lib.hid hO3; replace hE3 := Lib.hid hE3; replace hb3 := Lib.hid hb3)
          | fail)
        go_end0
        have hB3 : ∀ ad, (some ⟨g3, 0, none⟩ : Option Addr) = some ad → w.heap.size ≤ ad.block := fun ad e => by
          injection e with e
          subst e
          have h1 := hM2.out.2 _ rfl
          have h2 := HBU.out.size
          have h3 := hb2.out.size
          rcases hE3.out with h | h
          · simp only at h1 ⊢; omega
          · simp only; omega
        rw [HU.out]
        exact ⟨rfl, RxT.fresh HX.out h0 (HBU.out.trans (hb3.out.mono HBU.out.size)) (by rw [← HEV.out]; exact hO3.out) hB3 HLN.out⟩
      · obtain ⟨b1, rfl⟩ : ∃ b1, ad = ⟨b1, 0, none⟩ := by
          obtain ⟨_, _, _, h4⟩ := HR.out.1
          rcases h4 with ⟨h4, _⟩ | ⟨g', cur, h4, _⟩
          · cases h4
          · injection h4 with h4
            exact ⟨g', h4⟩
        obtain ⟨i0, hi0, hz0, hs0, hb0⟩ := info_parts redo_info
        have HI := Lib.hid hi0
        have HZ := Lib.hid hz0
        have HS := Lib.hid hs0
        have HB := Lib.hid hb0
        have HTK := Lib.hid (show (T.take n).length = n by rw [List.length_take]; have := HL.out; omega)
        have HTL := Lib.hid (show (T.take n).length ≤ 1099511627776 by rw [List.length_take]; omega)
        have HGV := Lib.hid (show g < V.heap.size from Nat.lt_of_lt_of_le hgl HBV.out.size)
        have HWV := Lib.hid (lt_of_cells HVR.out)
        have HDN := Lib.hid (show True from trivial)
        have HEV := Lib.hid (show ev (T.take n ++ [⟨p, x⟩]) ++ [] = ev (T.take n ++ ⟨p, x⟩ :: T.drop n) by rw [List.append_nil, List.drop_of_length_le (by rw [HL.out]; exact Nat.le_refl _)])
        have HLN := Lib.hid (show n + 1 + 0 = (T.take n ++ (⟨p, x⟩ : Re) :: T.drop n).length by rw [List.length_append, List.length_cons, List.length_drop, HTK.out, HL.out]; omega)
        have hkc : n ≤ c := by omega
        have hkn : n ≤ n := by omega

        clear hi0 hz0 hs0 hb0
        go_wp2_with (fail)
        go_quiet (fail)
        generalize nq = q1 at *
        go_wp2_with (fail)
        go_quiet (fail)
        obtain ⟨U, hU⟩ : ∃ U, U = ((V.drewN q).drewN q1).drewN nq := ⟨_, rfl⟩
        have u0 : U.cell? ⟨g, 0, none⟩ = some (.slice (some ⟨b1, 0, none⟩) n c) := by rw [hU]; exact v0
        have u1 : U.cell? ⟨w.heap.size, 0, none⟩ = some (.int .i64 p) := by rw [hU]; exact v1
        have u2 : U.cell? ⟨w.heap.size, 1, none⟩ = some (.int .u64 (x : Int)) := by rw [hU]; exact v2
        have HCU := Lib.hid (show Cel U (some ⟨b1, 0, none⟩) (ev T) by rw [hU]; exact HC.out)
        have HBU := Lib.hid (show Below w.heap.size w U by rw [hU]; exact below_drewN (below_drewN (below_drewN HBV.out q) q1) nq)
        have HGU := Lib.hid (show g < U.heap.size by rw [hU]; exact HGV.out)
        have HWU := Lib.hid (show w.heap.size < U.heap.size by rw [hU]; exact HWV.out)
        rw [← hU]
        clear hU v0 v1 v2
        go_wp2_with (first
          | (at_builtin; refine wpList_rcl rfl (.tmp 57) (.tmp 63) rfl (some ⟨b1, 0, none⟩) (T.take n) n c HTK.out rfl rfl (HCU.out.take n) HTL.out ?_; intro B cB w1 hO1 hb1; replace hO1 := Lib.hid hO1; have y1 := (hb1.cell (p := ⟨w.heap.size, 0, none⟩) HWU.out).trans u1; have y2 := (hb1.cell (p := ⟨w.heap.size, 1, none⟩) HWU.out).trans u2; replace hb1 := Lib.hid hb1)
          | (at_builtin; refine wpList_append_r rfl (.tmp 65) (.tmp 67) 28 rfl 38 i0 _ 2 16 Try.underlying28 HI.out HZ.out HS.out HB.out rfl B n cB (ev (T.take n)) rfl (hO1.out.1.keep fun ad e => Below.heap_alloc _ _ _ (hO1.out.1.lt ad e)) ⟨w1.heap.size, 0, none⟩ 1 1 (ev [⟨p, x⟩]) rfl rfl (cells_re (heap_alloc_new _ _)) (ev_one _) (by decide) (by unfold maxLen; omega) (by omega) ?_; intro g2 c2 w2 hO2 hG2 hE2; obtain ⟨hM2, hb2⟩ := MineR.step (by have := hb1.out.size; simp; omega) hO1.out.2 (hb1.out.alloc hb1.out.size _) hO2 hG2 hE2 rfl; have z0 := (hb2.cell (p := ⟨g, 0, none⟩) HGU.out).trans u0; clear hO2 hG2 hE2 y1 y2; replace hM2 := Lib.hid hM2; replace hb2 := Lib.hid hb2)
          | (at_builtin; refine wpList_app_any rfl (.tmp 70) (.tmp 76) 28 rfl 38 i0 _ 2 16 Try.underlying28 HI.out HZ.out HS.out HB.out rfl g2 (n + 1) c2 (ev (T.take n ++ [⟨p, x⟩])) rfl hM2.out.1 _ 0 _ [] rfl rfl (fun _ => rfl) (fun _ _ j u hu => by cases hu) (fun u hu => by cases hu) (by unfold maxLen; omega) (by omega) ?_; intro g3 c3 w3 hO3 hG3 hE3; have hb3 := hb2.out.grown hG3 hb2.out.size (fun j e => by injection e with e; rw [← e]; exact hM2.out.2 _ rfl); have hh3 := (hb3.block g HGU.out).trans ((HBU.out.block g hgl).trans HG.out); have z3 : w3.cell? ⟨g, 0, none⟩ = some (.slice (some ⟨b1, 0, none⟩) n c) := (by rw [cell_of_row w3 g 0 _ _ _ hh3]; rfl); have z4 : w3.frozen? ⟨g, 0, none⟩ = false := frozen_of hh3; clear hh3; replace hO3 := Lib.hid hO3; replace hE3 := Lib.hid hE3; replace hb3 := Lib.hid hb3)
          | fail)
        all_goals
          go_end0
          have hB3 : ∀ ad, (some ⟨g3, 0, none⟩ : Option Addr) = some ad → w.heap.size ≤ ad.block := fun ad e => by
            injection e with e
            subst e
            have h1 := hM2.out.2 _ rfl
            have h2 := HBU.out.size
            have h3 := hb2.out.size
            rcases hE3.out with h | h
            · simp only at h1 ⊢; omega
            · simp only; omega
          rw [HU.out]
          exact ⟨rfl, RxT.fresh HX.out h0 (HBU.out.trans (hb3.out.mono HBU.out.size)) (by rw [← HEV.out]; exact hO3.out) hB3 HLN.out⟩
end Go.Proofs.Ytphjppnkackmmaa
