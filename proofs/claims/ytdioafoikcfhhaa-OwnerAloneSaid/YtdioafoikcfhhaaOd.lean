/- The program's cleared, sgidLost. -/
import Derived.Test.YtdioafoikcfhhaaOc
set_option linter.unusedSimpArgs false
set_option linter.unusedVariables false
set_option linter.unusedSimpArgs false
set_option linter.unusedVariables false
namespace Go.Proofs.Ytdioafoikcfhhaa
open Go.RowKit
theorem one_of {v : Value} (h : v.oneCell' = true) : ∀ u ∈ [v], u.oneCell' = true := fun u hu => by
  rw [List.mem_singleton] at hu
  rw [hu]
  exact h
theorem acl_one (l : Ac) (q : Lie) : ∀ u ∈ (l.c q).toList, u.oneCell' = true := fun u hu => by
  have h : (l.c q).toList.all (·.oneCell') = true := rfl
  exact List.all_eq_true.1 h u hu
theorem nb_may {x : Ac} (h : mayB x = true) : Nb x := by
  have hm := mayB_iff.1 h
  have h1 := hm.ow
  have h2 := hm.gr
  have h3 := hm.ot
  have h4 := hm.ms
  refine ⟨by omega, by omega, by omega, by omega, fun k p hk => ?_⟩
  have := (rise_nm hm.gs).1 p (List.mem_of_getElem? hk)
  omega
theorem class_odd (x : Ac) : bitsN x / 8 % 256 % 2 = cls x % 2 := by
  unfold bitsN
  omega
theorem and1 (m : Nat) (hm : m < 256) : bits .and .u8 (m : Int) 1 = ((m % 2 : Nat) : Int) := by
  rw [← Nat.and_one_is_mod]
  exact and8 m 1 hm (by decide)
set_option maxRecDepth 100000 in
set_option maxHeartbeats 4000000 in
theorem cleared_calls (x : At) (p : ALie) (w : World) (h : AOw w x p) (hx : Nb x.ac) (hbi : x.bi < 256) :
    Calls Try.prog 47 #[x.v p] w fun e w' => e = .returned (At.v (goesA x) p) ∧ AOw w' (goesA x) p ∧ Below w.heap.size w w' := by
  obtain ⟨V, hV⟩ : ∃ V, V = (w.alloc (.cells (x.c p) 31)).alloc (.cells zAt 31) := ⟨_, rfl⟩
  have S0 : Hid (Wk w V w.heap.size x p (w.heap.size + 1) zAt) := Lib.hid (by rw [hV]; exact Wk.start w h)
  have HX := Lib.hid hx
  obtain ⟨b1, hb1⟩ : ∃ b, offN x.bi 4 = b := ⟨_, rfl⟩
  have e4 : bits .andNot .u8 (x.bi : Int) 4 = (b1 : Int) := by rw [← hb1]; exact off8 4 (by decide) x.bi hbi
  have hl1 : b1 < 256 := by have := off_le x.bi 4; omega
  have HB1 := Lib.hid hb1
  clear h hx hb1
  go_enter Try.func47, Try.ntmps47
  go_upto_region 1 with (fail)
  rw [← hV]
  clear hV
  have y0 := S0.out.bt.c0
  obtain ⟨U1, hU1⟩ : ∃ Zz, Zz = World.setRow V w.heap.size (At.c (withBi x b1) p) := ⟨_, rfl⟩
  have S1 := Lib.hid (S0.out.put (S0.out.ow.bi b1))
  rw [← hU1] at S1
  go_upto_region 2 with (refine wpList_store_part rfl 5 (.tmp 7) (.tmp 6) rfl rfl w.heap.size 0 [.int .u8 ((b1 : Nat) : Int)] rfl rfl 31 _ S0.out.bt u8_size (Nat.le_of_ble_eq_true rfl) (one_of rfl) (At.c (withBi x b1) p) rfl ?_; rw [← hU1])
  clear hU1 S0 y0 e4
  go_wp2_with (refine wpList_load_part rfl 28 (.tmp 8) rfl w.heap.size 3 rfl (Ac.c (withBi x b1).ac p.p).toList _ (S1.out.bt.ac) Try.underlying28 rfl acl_size (Ac.v (withBi x b1).ac p.p) rfl ?_)
  refine (bits_calls (withBi x b1).ac p.p U1 HX.out).mono ?_
  rintro e w2 ⟨rfl, hb⟩
  have S2 := Lib.hid (S1.out.on hb)
  clear hb S1
  have HO := Lib.hid (class_odd (withBi x b1).ac)
  generalize bitsN (withBi x b1).ac = bn at *
  have h5 := and1 (bn / 8 % 256) (by omega)
  rw [HO.out] at h5
  have e0 : ((bn / 8 % 256 : Nat) : Int) = (bn : Int) / 8 % 256 := by omega
  rw [e0] at h5
  clear e0 HO
  by_cases hc : cls (withBi x b1).ac % 2 = 1
  case pos =>
    have e5 : bits .and .u8 ((bn : Int) / 8 % 256) 1 = 1 := by rw [h5, hc]; rfl
    have e2 : bits .andNot .u8 (b1 : Int) 2 = (offN b1 2 : Int) := off8 2 (by decide) b1 hl1
    have HG : Hid (goesA x = withBi (withBi x b1) (offN b1 2)) := Lib.hid (by
      have hc' : cls x.ac % 2 = 1 := hc
      unfold goesA goesN
      rw [if_pos hc', HB1.out]
      rfl)
    clear h5 hc
    have y0 : w2.cell? ⟨w.heap.size, 0, none⟩ = some (.int .u8 (b1 : Nat)) := S2.out.bt.c0
    obtain ⟨U2, hU2⟩ : ∃ Zz, Zz = World.setRow w2 w.heap.size (At.c (withBi (withBi x b1) (offN b1 2)) p) := ⟨_, rfl⟩
    have S3 := Lib.hid (S2.out.put (S2.out.ow.bi (offN b1 2)))
    rw [← hU2] at S3
    go_upto_region 5 with (refine wpList_store_part rfl 5 (.tmp 19) (.tmp 18) rfl rfl w.heap.size 0 [.int .u8 ((offN b1 2 : Nat) : Int)] rfl rfl 31 _ S2.out.bt u8_size (Nat.le_of_ble_eq_true rfl) (one_of rfl) (At.c (withBi (withBi x b1) (offN b1 2)) p) rfl ?_; rw [← hU2])
    clear hU2 S2 y0 e2 e5
    rw [← HG.out] at S3
    obtain ⟨C, hC⟩ : ∃ C, C = At.c (goesA x) p := ⟨_, rfl⟩
    have hone : C.all (·.oneCell') = true := by rw [hC]; exact c_one _ _
    have hsz : (Try.prog.info? 31).map (·.size) = some C.size := by rw [hC]; exact c_size _ _
    have hold : (zAt : Array Value).size = C.size := by rw [hC]; rfl
    have HBT : Hid ((World.heap U2)[w.heap.size]? = some (.cells C 31 (0, 0))) := Lib.hid (by rw [hC]; exact S3.out.bt)
    obtain ⟨Z, hZ⟩ : ∃ Z, Z = World.setRow U2 (w.heap.size + 1) C := ⟨_, rfl⟩
    have HR := Lib.hid (S3.out.res C)
    rw [← hZ] at HR
    have HC := Lib.hid hC
    have HZZ := Lib.hid hZ
    clear hC hZ
    go_wp2_with (first
      | (refine wpList_load_row rfl 31 (.tmp 1) rfl w.heap.size rfl 31 C (0, 0) _ HBT.out Try.underlying31 rfl hsz ?_)
      | (refine wpList_store_rowTo rfl 31 (.tmp 2) (.tmp 20) rfl rfl (w.heap.size + 1) C rfl rfl 31 _ S3.out.rb hsz hold hone ?_; rw [← HZZ.out]))
    exact bodyPost_ret (results_cell_row rfl _ _ (w.heap.size + 1) 31 _ (0, 0) _ rfl HR.out.rb Try.underlying31 rfl hsz) rfl ⟨by rw [HC.out], HR.out.ow, HR.out.be⟩
  case neg =>
    have h0 : cls (withBi x b1).ac % 2 = 0 := by omega
    have e5 : bits .and .u8 ((bn : Int) / 8 % 256) 1 = 0 := by rw [h5, h0]; rfl
    have HG : Hid (goesA x = withBi x b1) := Lib.hid (by
      have hc' : ¬ cls x.ac % 2 = 1 := hc
      unfold goesA goesN
      rw [if_neg hc', HB1.out])
    clear h5 hc h0
    go_upto_region 5 with (fail)
    clear e5
    rw [← HG.out] at S2
    obtain ⟨C, hC⟩ : ∃ C, C = At.c (goesA x) p := ⟨_, rfl⟩
    have hone : C.all (·.oneCell') = true := by rw [hC]; exact c_one _ _
    have hsz : (Try.prog.info? 31).map (·.size) = some C.size := by rw [hC]; exact c_size _ _
    have hold : (zAt : Array Value).size = C.size := by rw [hC]; rfl
    have HBT : Hid ((World.heap w2)[w.heap.size]? = some (.cells C 31 (0, 0))) := Lib.hid (by rw [hC]; exact S2.out.bt)
    obtain ⟨Z, hZ⟩ : ∃ Z, Z = World.setRow w2 (w.heap.size + 1) C := ⟨_, rfl⟩
    have HR := Lib.hid (S2.out.res C)
    rw [← hZ] at HR
    have HC := Lib.hid hC
    have HZZ := Lib.hid hZ
    clear hC hZ
    go_wp2_with (first
      | (refine wpList_load_row rfl 31 (.tmp 1) rfl w.heap.size rfl 31 C (0, 0) _ HBT.out Try.underlying31 rfl hsz ?_)
      | (refine wpList_store_rowTo rfl 31 (.tmp 2) (.tmp 20) rfl rfl (w.heap.size + 1) C rfl rfl 31 _ S2.out.rb hsz hold hone ?_; rw [← HZZ.out]))
    exact bodyPost_ret (results_cell_row rfl _ _ (w.heap.size + 1) 31 _ (0, 0) _ rfl HR.out.rb Try.underlying31 rfl hsz) rfl ⟨by rw [HC.out], HR.out.ow, HR.out.be⟩
end Go.Proofs.Ytdioafoikcfhhaa
