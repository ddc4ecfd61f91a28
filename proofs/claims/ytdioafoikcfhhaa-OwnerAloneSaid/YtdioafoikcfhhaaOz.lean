/- The document's Chown: what may not be told; its Chown. -/
import Derived.Test.YtdioafoikcfhhaaOv
import Derived.Test.YtdioafoikcfhhaaOw
import Derived.Test.YtdioafoikcfhhaaOx
import Derived.Test.YtdioafoikcfhhaaOy
set_option linter.unusedSimpArgs false
set_option linter.unusedVariables false
set_option linter.unusedSimpArgs false
set_option linter.unusedVariables false
namespace Go.Proofs.Ytdioafoikcfhhaa
open Go.RowKit
set_option maxRecDepth 100000 in
set_option maxHeartbeats 8000000 in
theorem rchown_bad (c : Cr) (A : Option Addr) (n : Nat) (x : At) (p : ALie) (k : Nat) (u g : Int) (w : World) (hc : CLies w c A) (h : ALies w x p) (hs : ASm x) (hks : Ks x) (hb : (idB u && idB g) = false) :
    Calls Try.prog 14 #[c.v A n, x.v p, .int .u8 (k : Nat), .int .i64 u, .int .i64 g] w fun e w' => ∃ q, e = .returned (.tuple #[At.v (choA c x k u g) q, .int .i64 (choN c x u g)]) ∧ AOw w' (choA c x k u g) q ∧ Below w.heap.size w w' := by
  obtain ⟨V, hV⟩ : ∃ V, V = ((w.alloc (.cells (c.c A n) 25)).alloc (.cells (x.c p) 31)).alloc (.cells zAt 31) := ⟨_, rfl⟩
  have S0 : Hid (Pz w V c A n x p (w.heap.size + 2)) := Lib.hid (by rw [hV]; exact Pz.start hc h)
  have HS := Lib.hid hs
  have HKS := Lib.hid hks
  have HNN : Hid (choN c x u g = 622) := Lib.hid (by unfold choN; rw [hb]; cases validB c x <;> rfl)
  have HNA : Hid (choA c x k u g = atZ) := Lib.hid (by unfold choA; rw [HNN.out]; rfl)
  have hways : u < -1 ∨ ((-1 ≤ u ∧ 65535 < u) ∨ ((-1 ≤ u ∧ u ≤ 65535) ∧ (g < -1 ∨ (-1 ≤ g ∧ 65535 < g)))) := by
    unfold idB at hb
    rw [Bool.and_eq_false_iff, Bool.and_eq_false_iff, Bool.and_eq_false_iff, decide_eq_false_iff_not, decide_eq_false_iff_not, decide_eq_false_iff_not, decide_eq_false_iff_not] at hb
    omega
  have HW := Lib.hid hways
  clear hways hb
  obtain ⟨X, hX⟩ : ∃ X, choA c x k u g = X := ⟨_, rfl⟩
  obtain ⟨N, hN⟩ : ∃ N, choN c x u g = N := ⟨_, rfl⟩
  rw [hX, hN]
  have HX := Lib.hid hX
  have HN := Lib.hid hN
  clear h hc hs hks hX hN
  go_enter Try.func14, Try.ntmps14
  go_upto_region 1 with (fail)
  rw [← hV]
  clear hV
  go_wp2_with (first
  | (refine wpList_load_part rfl 25 (.tmp 5) rfl w.heap.size 0 rfl (Cr.c c A n).toList _ (S0.out.pb.cb).all Try.underlying25 rfl cred_size (Cr.v c A n) rfl ?_)
  | (refine wpList_load_part rfl 31 (.tmp 6) rfl (w.heap.size + 1) 0 rfl (At.c x p).toList _ (S0.out.pb.bt).bt0 Try.underlying31 rfl attr_size (At.v x p) rfl ?_))
  refine (rmayo_calls c A n x p V S0.out.pb.cl S0.out.pb.al HS.out HKS.out).mono ?_
  rintro e w1 ⟨rfl, hb⟩
  have S1 := Lib.hid (S0.out.on hb)
  clear hb S0
  cases hv : validB c x
  case false =>
    clear hv HW
    have HA : Hid (X = atZ) := Lib.hid (by rw [← HX.out]; exact HNA.out)
    have HN2 : Hid (N = 622) := Lib.hid (by rw [← HN.out]; exact HNN.out)
    have hone : (zAt).all (·.oneCell') = true := by rw [← Array.all_toList]; rfl
    obtain ⟨Z, hZ⟩ : ∃ Z, Z = World.setRow w1 (w.heap.size + 2) zAt := ⟨_, rfl⟩
    have HR : Hid (Z.heap[(w.heap.size + 2)]? = some (.cells zAt 31 (0, 0))) := Lib.hid (by rw [hZ]; exact setRow_heap _ _ _ _ _ _ S1.out.rz)
    have HBZ : Hid (Below w.heap.size w Z) := Lib.hid (by rw [hZ]; exact below_setRow S1.out.pb.be S1.out.hr _)
    have HZZ := Lib.hid hZ
    clear hZ
    go_wp2_with (first
      | (refine wpList_buildTo rfl 31 #[] rfl (some 33) rfl zAt (by kernel_rfl) ?_)
      | (refine wpList_store_rowTo rfl 31 (.tmp 10) (.tmp 33) rfl rfl (w.heap.size + 2) zAt rfl rfl 31 _ S1.out.rz attr_size rfl hone ?_; rw [← HZZ.out]))
    exact bodyPost_ret (results_row_tmp rfl _ _ (w.heap.size + 2) 31 zAt (0, 0) _ (.int .i64 622) rfl HR.out rfl Try.underlying31 rfl attr_size) rfl ⟨alieZ, by rw [HA.out, HN2.out]; rfl, by rw [HA.out]; exact AOw.z _, HBZ.out⟩
  case true =>
  clear hv
  have hways := HW.out
  clear HW
  rcases hways with h1 | ⟨h1, h2⟩ | ⟨⟨h1, h2⟩, h3 | ⟨h3, h4⟩⟩
  case inl =>
    have d1 : decide (u < -1) = true := decide_eq_true h1
    clear h1
    have HA : Hid (X = atZ) := Lib.hid (by rw [← HX.out]; exact HNA.out)
    have HN2 : Hid (N = 622) := Lib.hid (by rw [← HN.out]; exact HNN.out)
    have hone : (zAt).all (·.oneCell') = true := by rw [← Array.all_toList]; rfl
    obtain ⟨Z, hZ⟩ : ∃ Z, Z = World.setRow w1 (w.heap.size + 2) zAt := ⟨_, rfl⟩
    have HR : Hid (Z.heap[(w.heap.size + 2)]? = some (.cells zAt 31 (0, 0))) := Lib.hid (by rw [hZ]; exact setRow_heap _ _ _ _ _ _ S1.out.rz)
    have HBZ : Hid (Below w.heap.size w Z) := Lib.hid (by rw [hZ]; exact below_setRow S1.out.pb.be S1.out.hr _)
    have HZZ := Lib.hid hZ
    clear hZ
    go_wp2_with (first
      | (refine wpList_buildTo rfl 31 #[] rfl (some 33) rfl zAt (by kernel_rfl) ?_)
      | (refine wpList_store_rowTo rfl 31 (.tmp 10) (.tmp 33) rfl rfl (w.heap.size + 2) zAt rfl rfl 31 _ S1.out.rz attr_size rfl hone ?_; rw [← HZZ.out]))
    exact bodyPost_ret (results_row_tmp rfl _ _ (w.heap.size + 2) 31 zAt (0, 0) _ (.int .i64 622) rfl HR.out rfl Try.underlying31 rfl attr_size) rfl ⟨alieZ, by rw [HA.out, HN2.out]; rfl, by rw [HA.out]; exact AOw.z _, HBZ.out⟩
  case inr.inl =>
    have d1 : decide (u < -1) = false := by rw [decide_eq_false_iff_not]; omega
    have d2 : decide (65535 < u) = true := decide_eq_true h2
    clear h1 h2
    have HA : Hid (X = atZ) := Lib.hid (by rw [← HX.out]; exact HNA.out)
    have HN2 : Hid (N = 622) := Lib.hid (by rw [← HN.out]; exact HNN.out)
    have hone : (zAt).all (·.oneCell') = true := by rw [← Array.all_toList]; rfl
    obtain ⟨Z, hZ⟩ : ∃ Z, Z = World.setRow w1 (w.heap.size + 2) zAt := ⟨_, rfl⟩
    have HR : Hid (Z.heap[(w.heap.size + 2)]? = some (.cells zAt 31 (0, 0))) := Lib.hid (by rw [hZ]; exact setRow_heap _ _ _ _ _ _ S1.out.rz)
    have HBZ : Hid (Below w.heap.size w Z) := Lib.hid (by rw [hZ]; exact below_setRow S1.out.pb.be S1.out.hr _)
    have HZZ := Lib.hid hZ
    clear hZ
    go_wp2_with (first
      | (refine wpList_buildTo rfl 31 #[] rfl (some 33) rfl zAt (by kernel_rfl) ?_)
      | (refine wpList_store_rowTo rfl 31 (.tmp 10) (.tmp 33) rfl rfl (w.heap.size + 2) zAt rfl rfl 31 _ S1.out.rz attr_size rfl hone ?_; rw [← HZZ.out]))
    exact bodyPost_ret (results_row_tmp rfl _ _ (w.heap.size + 2) 31 zAt (0, 0) _ (.int .i64 622) rfl HR.out rfl Try.underlying31 rfl attr_size) rfl ⟨alieZ, by rw [HA.out, HN2.out]; rfl, by rw [HA.out]; exact AOw.z _, HBZ.out⟩
  case inr.inr.inl =>
    have d1 : decide (u < -1) = false := by rw [decide_eq_false_iff_not]; omega
    have d2 : decide (65535 < u) = false := by rw [decide_eq_false_iff_not]; omega
    have d3 : decide (g < -1) = true := decide_eq_true h3
    clear h1 h2 h3
    have HA : Hid (X = atZ) := Lib.hid (by rw [← HX.out]; exact HNA.out)
    have HN2 : Hid (N = 622) := Lib.hid (by rw [← HN.out]; exact HNN.out)
    have hone : (zAt).all (·.oneCell') = true := by rw [← Array.all_toList]; rfl
    obtain ⟨Z, hZ⟩ : ∃ Z, Z = World.setRow w1 (w.heap.size + 2) zAt := ⟨_, rfl⟩
    have HR : Hid (Z.heap[(w.heap.size + 2)]? = some (.cells zAt 31 (0, 0))) := Lib.hid (by rw [hZ]; exact setRow_heap _ _ _ _ _ _ S1.out.rz)
    have HBZ : Hid (Below w.heap.size w Z) := Lib.hid (by rw [hZ]; exact below_setRow S1.out.pb.be S1.out.hr _)
    have HZZ := Lib.hid hZ
    clear hZ
    go_wp2_with (first
      | (refine wpList_buildTo rfl 31 #[] rfl (some 33) rfl zAt (by kernel_rfl) ?_)
      | (refine wpList_store_rowTo rfl 31 (.tmp 10) (.tmp 33) rfl rfl (w.heap.size + 2) zAt rfl rfl 31 _ S1.out.rz attr_size rfl hone ?_; rw [← HZZ.out]))
    exact bodyPost_ret (results_row_tmp rfl _ _ (w.heap.size + 2) 31 zAt (0, 0) _ (.int .i64 622) rfl HR.out rfl Try.underlying31 rfl attr_size) rfl ⟨alieZ, by rw [HA.out, HN2.out]; rfl, by rw [HA.out]; exact AOw.z _, HBZ.out⟩
  case inr.inr.inr =>
    have d1 : decide (u < -1) = false := by rw [decide_eq_false_iff_not]; omega
    have d2 : decide (65535 < u) = false := by rw [decide_eq_false_iff_not]; omega
    have d3 : decide (g < -1) = false := by rw [decide_eq_false_iff_not]; omega
    have d4 : decide (65535 < g) = true := decide_eq_true h4
    clear h1 h2 h3 h4
    have HA : Hid (X = atZ) := Lib.hid (by rw [← HX.out]; exact HNA.out)
    have HN2 : Hid (N = 622) := Lib.hid (by rw [← HN.out]; exact HNN.out)
    have hone : (zAt).all (·.oneCell') = true := by rw [← Array.all_toList]; rfl
    obtain ⟨Z, hZ⟩ : ∃ Z, Z = World.setRow w1 (w.heap.size + 2) zAt := ⟨_, rfl⟩
    have HR : Hid (Z.heap[(w.heap.size + 2)]? = some (.cells zAt 31 (0, 0))) := Lib.hid (by rw [hZ]; exact setRow_heap _ _ _ _ _ _ S1.out.rz)
    have HBZ : Hid (Below w.heap.size w Z) := Lib.hid (by rw [hZ]; exact below_setRow S1.out.pb.be S1.out.hr _)
    have HZZ := Lib.hid hZ
    clear hZ
    go_wp2_with (first
      | (refine wpList_buildTo rfl 31 #[] rfl (some 33) rfl zAt (by kernel_rfl) ?_)
      | (refine wpList_store_rowTo rfl 31 (.tmp 10) (.tmp 33) rfl rfl (w.heap.size + 2) zAt rfl rfl 31 _ S1.out.rz attr_size rfl hone ?_; rw [← HZZ.out]))
    exact bodyPost_ret (results_row_tmp rfl _ _ (w.heap.size + 2) 31 zAt (0, 0) _ (.int .i64 622) rfl HR.out rfl Try.underlying31 rfl attr_size) rfl ⟨alieZ, by rw [HA.out, HN2.out]; rfl, by rw [HA.out]; exact AOw.z _, HBZ.out⟩
theorem rchowno_calls (c : Cr) (A : Option Addr) (n : Nat) (x : At) (p : ALie) (k : Nat) (u g : Int) (w : World) (hc : CLies w c A) (h : ALies w x p) (hs : ASm x) (hks : Ks x) (hxu : x.ui < 65536) (hxg : x.gi < 65536) :
    Calls Try.prog 14 #[c.v A n, x.v p, .int .u8 (k : Nat), .int .i64 u, .int .i64 g] w fun e w' => ∃ q, e = .returned (.tuple #[At.v (choA c x k u g) q, .int .i64 (choN c x u g)]) ∧ AOw w' (choA c x k u g) q ∧ Below w.heap.size w w' := by
  by_cases hb : (idB u && idB g) = true
  · have hb2 := hb
    unfold idB at hb2
    rw [Bool.and_eq_true, Bool.and_eq_true, Bool.and_eq_true, decide_eq_true_eq, decide_eq_true_eq, decide_eq_true_eq, decide_eq_true_eq] at hb2
    obtain ⟨⟨h1, h2⟩, h3, h4⟩ := hb2
    clear hb
    by_cases hu : u = -1
    · subst hu
      by_cases hg : g = -1
      · subst hg
        exact rchown_mm c A n x p k w hc h hs hks
      · obtain ⟨G, rfl⟩ := Int.eq_ofNat_of_zero_le (show 0 ≤ g by omega)
        exact rchown_mn c A n x p k G w hc h hs hks (by omega) hxg
    · obtain ⟨U, rfl⟩ := Int.eq_ofNat_of_zero_le (show 0 ≤ u by omega)
      by_cases hg : g = -1
      · subst hg
        exact rchown_nm c A n x p k U w hc h hs hks (by omega) hxu
      · obtain ⟨G, rfl⟩ := Int.eq_ofNat_of_zero_le (show 0 ≤ g by omega)
        exact rchown_nn c A n x p k U G w hc h hs hks (by omega) hxu (by omega) hxg
  · exact rchown_bad c A n x p k u g w hc h hs hks (by simpa using hb)
end Go.Proofs.Ytdioafoikcfhhaa
