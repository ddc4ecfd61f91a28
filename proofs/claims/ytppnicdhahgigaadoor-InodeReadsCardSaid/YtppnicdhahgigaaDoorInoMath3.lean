/- What was written is read as itself. -/
import Derived.Test.YtppnicdhahgigaaDoorIRef2
namespace Go.Proofs.YtppnicdhahgigaaDoor
open Go.RowKit WordMath SumMath
theorem fst7_seven {p : Nat → Bool} (h : fst7 p = 7) (j : Nat) (hj : j < 7) : p j = true := by
  have := (fst7_first p).all j
  rw [h] at this
  exact this hj
theorem wi_iff {n lo hi : Int} : wi n lo hi = true ↔ lo ≤ n ∧ n ≤ hi := by simp [wi]
/-- The numbers of a record that may be. -/
structure Num (x : Ino) (I B : Int) : Prop where
  K : 0 ≤ x.K ∧ x.K ≤ 3
  L : 0 ≤ x.L ∧ x.L ≤ 8
  S : 0 ≤ x.S ∧ x.S ≤ 8192
  A : 0 ≤ x.A ∧ x.A ≤ 255
  M : 0 ≤ x.M ∧ x.M ≤ 255
  P : 0 ≤ x.P ∧ x.P ≤ 64
  T : 0 ≤ x.T ∧ x.T ≤ 1099511627776
  C : 0 ≤ x.C ∧ x.C ≤ 1099511627776
  H0 : 0 ≤ x.H0 ∧ x.H0 ≤ 255
  H1 : 0 ≤ x.H1 ∧ x.H1 ≤ 255
  H2 : 0 ≤ x.H2 ∧ x.H2 ≤ 255
  H3 : 0 ≤ x.H3 ∧ x.H3 ≤ 255
  dir : x.K = 2 → x.M = 0
  other : ¬ x.K = 2 → x.H0 = 0 ∧ x.H1 = 0 ∧ x.H2 = 0 ∧ x.H3 = 0
theorem mis_num {x : Ino} {I B : Int} (hI : 2 ≤ I ∧ I ≤ 64) (hB : 4 ≤ B ∧ B ≤ 255) (h : misV x I B = 7) : Num x I B := by
  rw [mis_fst] at h
  have hp := fun j hj => fst7_seven (p := mB x I B) (by omega) j hj
  have h0 := hp 0 (by omega)
  have h1 := hp 1 (by omega)
  have h2 := hp 2 (by omega)
  have h3 := hp 3 (by omega)
  have h4 := hp 4 (by omega)
  have h5 := hp 5 (by omega)
  have h6 := hp 6 (by omega)
  have e0 : mB x I B 0 = (okK x.K && wi x.L (loI x.K).L (hiI x.K I B).L) := rfl
  have e1 : mB x I B 1 = wi x.S (loI x.K).S (hiI x.K I B).S := rfl
  have e2 : mB x I B 2 = wi x.A (loI x.K).A (hiI x.K I B).A := rfl
  have e3 : mB x I B 3 = (wi x.M (loI x.K).M (hiI x.K I B).M && headsB x (loI x.K) (hiI x.K I B)) := rfl
  have e4 : mB x I B 4 = wi x.P (loI x.K).P (hiI x.K I B).P := rfl
  have e5 : mB x I B 5 = wi x.T (loI x.K).T (hiI x.K I B).T := rfl
  have e6 : mB x I B 6 = wi x.C (loI x.K).C (hiI x.K I B).C := rfl
  rw [e0, Bool.and_eq_true, wi_iff] at h0
  rw [e1, wi_iff] at h1
  rw [e2, wi_iff] at h2
  rw [e3, Bool.and_eq_true, wi_iff] at h3
  rw [e4, wi_iff] at h4
  rw [e5, wi_iff] at h5
  rw [e6, wi_iff] at h6
  unfold headsB at h3
  simp only [Bool.and_eq_true, wi_iff] at h3
  have hk : 0 ≤ x.K ∧ x.K ≤ 3 := by have := h0.1; unfold okK at this; exact of_decide_eq_true this
  clear hp e0 e1 e2 e3 e4 e5 e6 h
  obtain ⟨h31, h32, h33, h34, h35⟩ := h3
  replace h0 := h0.2
  have hc : x.K = 0 ∨ x.K = 1 ∨ x.K = 2 ∨ x.K = 3 := by omega
  rcases hc with hc | hc | hc | hc
  · rw [hc] at h0 h1 h2 h31 h32 h33 h34 h35 h4 h5 h6
    have g0 : 0 ≤ x.L ∧ x.L ≤ 0 := h0
    have g1 : 0 ≤ x.S ∧ x.S ≤ 0 := h1
    have g2 : 0 ≤ x.A ∧ x.A ≤ 0 := h2
    have g3 : 0 ≤ x.M ∧ x.M ≤ 0 := h31
    have g4 : 0 ≤ x.P ∧ x.P ≤ 0 := h4
    have g5 : 0 ≤ x.T ∧ x.T ≤ 0 := h5
    have g6 : 0 ≤ x.C ∧ x.C ≤ 0 := h6
    have q0 : 0 ≤ x.H0 ∧ x.H0 ≤ 0 := h32
    have q1 : 0 ≤ x.H1 ∧ x.H1 ≤ 0 := h33
    have q2 : 0 ≤ x.H2 ∧ x.H2 ≤ 0 := h34
    have q3 : 0 ≤ x.H3 ∧ x.H3 ≤ 0 := h35
    clear h0 h1 h2 h31 h32 h33 h34 h35 h4 h5 h6
    exact ⟨hk, by omega, by omega, by omega, by omega, by omega, by omega, by omega, by omega, by omega, by omega, by omega, fun _ => by omega, fun _ => by omega⟩
  · rw [hc] at h0 h1 h2 h31 h32 h33 h34 h35 h4 h5 h6
    have g0 : 0 ≤ x.L ∧ x.L ≤ 8 := h0
    have g1 : 0 ≤ x.S ∧ x.S ≤ 8192 := h1
    have g2 : 1 ≤ x.A ∧ x.A ≤ B := h2
    have g3 : 0 ≤ x.M ∧ x.M ≤ B := h31
    have g4 : 0 ≤ x.P ∧ x.P ≤ 0 := h4
    have g5 : 0 ≤ x.T ∧ x.T ≤ 1099511627776 := h5
    have g6 : 0 ≤ x.C ∧ x.C ≤ 1099511627776 := h6
    have q0 : 0 ≤ x.H0 ∧ x.H0 ≤ 0 := h32
    have q1 : 0 ≤ x.H1 ∧ x.H1 ≤ 0 := h33
    have q2 : 0 ≤ x.H2 ∧ x.H2 ≤ 0 := h34
    have q3 : 0 ≤ x.H3 ∧ x.H3 ≤ 0 := h35
    clear h0 h1 h2 h31 h32 h33 h34 h35 h4 h5 h6
    exact ⟨hk, by omega, by omega, by omega, by omega, by omega, by omega, by omega, by omega, by omega, by omega, by omega, fun _ => by omega, fun _ => by omega⟩
  · rw [hc] at h0 h1 h2 h31 h32 h33 h34 h35 h4 h5 h6
    have g0 : 0 ≤ x.L ∧ x.L ≤ 1 := h0
    have g1 : 0 ≤ x.S ∧ x.S ≤ 4096 := h1
    have g2 : 1 ≤ x.A ∧ x.A ≤ B := h2
    have g3 : 0 ≤ x.M ∧ x.M ≤ 0 := h31
    have g4 : 1 ≤ x.P ∧ x.P ≤ I := h4
    have g5 : 0 ≤ x.T ∧ x.T ≤ 1099511627776 := h5
    have g6 : 0 ≤ x.C ∧ x.C ≤ 1099511627776 := h6
    have q0 : 0 ≤ x.H0 ∧ x.H0 ≤ B := h32
    have q1 : 0 ≤ x.H1 ∧ x.H1 ≤ B := h33
    have q2 : 0 ≤ x.H2 ∧ x.H2 ≤ B := h34
    have q3 : 0 ≤ x.H3 ∧ x.H3 ≤ B := h35
    clear h0 h1 h2 h31 h32 h33 h34 h35 h4 h5 h6
    exact ⟨hk, by omega, by omega, by omega, by omega, by omega, by omega, by omega, by omega, by omega, by omega, by omega, fun _ => by omega, fun _ => by omega⟩
  · rw [hc] at h0 h1 h2 h31 h32 h33 h34 h35 h4 h5 h6
    have g0 : 0 ≤ x.L ∧ x.L ≤ 8 := h0
    have g1 : 1 ≤ x.S ∧ x.S ≤ 64 := h1
    have g2 : 1 ≤ x.A ∧ x.A ≤ B := h2
    have g3 : 1 ≤ x.M ∧ x.M ≤ B := h31
    have g4 : 0 ≤ x.P ∧ x.P ≤ 0 := h4
    have g5 : 0 ≤ x.T ∧ x.T ≤ 1099511627776 := h5
    have g6 : 0 ≤ x.C ∧ x.C ≤ 1099511627776 := h6
    have q0 : 0 ≤ x.H0 ∧ x.H0 ≤ 0 := h32
    have q1 : 0 ≤ x.H1 ∧ x.H1 ≤ 0 := h33
    have q2 : 0 ≤ x.H2 ∧ x.H2 ≤ 0 := h34
    have q3 : 0 ≤ x.H3 ∧ x.H3 ≤ 0 := h35
    clear h0 h1 h2 h31 h32 h33 h34 h35 h4 h5 h6
    exact ⟨hk, by omega, by omega, by omega, by omega, by omega, by omega, by omega, by omega, by omega, by omega, by omega, fun _ => by omega, fun _ => by omega⟩
/-- Its words have room for its numbers. -/
structure Room (x : Ino) : Prop where
  small : Small x
  S : 0 ≤ x.S ∧ x.S < 9223372036854775808
  A : 0 ≤ x.A ∧ x.A < 9223372036854775808
  M : 0 ≤ x.M ∧ x.M < 9223372036854775808
  P : 0 ≤ x.P ∧ x.P < 9223372036854775808
  T : 0 ≤ x.T ∧ x.T < 9223372036854775808
  C : 0 ≤ x.C ∧ x.C < 9223372036854775808
  other : ¬ x.K = 2 → x.H0 = 0 ∧ x.H1 = 0 ∧ x.H2 = 0 ∧ x.H3 = 0
theorem Num.room {x : Ino} {I B : Int} (h : Num x I B) (hG : 0 ≤ x.G ∧ x.G < 4294967296) : Room x := by
  have := h.K; have := h.L; have := h.H0; have := h.H1; have := h.H2; have := h.H3
  have := h.S; have := h.A; have := h.M; have := h.P; have := h.T; have := h.C
  exact ⟨⟨by omega, by omega, hG, by omega, by omega, by omega, by omega, h.dir⟩, by omega, by omega, by omega, by omega, by omega, by omega, h.other⟩
theorem i64_u64 {n : Int} (h : 0 ≤ n ∧ n < 9223372036854775808) : i64 (u64 n) = n := by
  rw [u64_nat h.1 (by omega)]
  unfold i64
  rw [if_pos (by omega)]
  omega
theorem rd_wr {x : Ino} (h : Room x) (s : Nat) : rdL (wL x ++ [s]) = x := by
  have hK := h.small.K; have hL := h.small.L; have hG := h.small.G
  have h0 := h.small.H0; have h1 := h.small.H1; have h2 := h.small.H2; have h3 := h.small.H3
  show rdW (headN x) (u64 x.S) (u64 x.A) (bodyN x) (u64 x.P) (u64 x.T) (u64 x.C) = x
  have eK : headN x % 256 = x.K.toNat := by unfold headN; omega
  have eL : headN x / 256 % 256 = x.L.toNat := by unfold headN; omega
  have eG : headN x / 4294967296 % 4294967296 = x.G.toNat := by unfold headN; omega
  unfold rdW
  rw [fld_a, fld_b, fld_e, eK, eL, eG, i64_u64 h.S, i64_u64 h.A, i64_u64 h.P, i64_u64 h.T, i64_u64 h.C]
  have cK : ((x.K.toNat : Nat) : Int) = x.K := by omega
  have cL : ((x.L.toNat : Nat) : Int) = x.L := by omega
  have cG : ((x.G.toNat : Nat) : Int) = x.G := by omega
  rw [cK, cL, cG]
  by_cases hk : x.K = 2
  · have hk' : x.K.toNat = 2 := by omega
    rw [if_pos hk']
    have eb : bodyN x = heads4 x := if_pos hk
    have b0 : bodyN x % 256 = x.H0.toNat := by rw [eb]; unfold heads4; omega
    have b1 : bodyN x / 256 % 256 = x.H1.toNat := by rw [eb]; unfold heads4; omega
    have b2 : bodyN x / 65536 % 256 = x.H2.toNat := by rw [eb]; unfold heads4; omega
    have b3 : bodyN x / 16777216 % 256 = x.H3.toNat := by rw [eb]; unfold heads4; omega
    rw [fld_a, fld_b, fld_c, fld_d, b0, b1, b2, b3]
    have c0 : ((x.H0.toNat : Nat) : Int) = x.H0 := by omega
    have c1 : ((x.H1.toNat : Nat) : Int) = x.H1 := by omega
    have c2 : ((x.H2.toNat : Nat) : Int) = x.H2 := by omega
    have c3 : ((x.H3.toNat : Nat) : Int) = x.H3 := by omega
    have hM := h.small.M hk
    rw [c0, c1, c2, c3]
    obtain ⟨K, L, G, S, A, M, H0, H1, H2, H3, P, T, C⟩ := x
    simp only at hM
    rw [hM]
  · have hk' : ¬ x.K.toNat = 2 := by omega
    rw [if_neg hk']
    have eb : bodyN x = u64 x.M := if_neg hk
    obtain ⟨z0, z1, z2, z3⟩ := h.other hk
    rw [eb, i64_u64 h.M]
    obtain ⟨K, L, G, S, A, M, H0, H1, H2, H3, P, T, C⟩ := x
    simp only at z0 z1 z2 z3
    rw [z0, z1, z2, z3]
theorem wd_sealed {l : List Nat} (h : Wd l) : Wd (sealed l) := Wd.of_mem fun x hx => by
  unfold sealed at hx
  rw [List.mem_append, List.mem_singleton] at hx
  rcases hx with hx | rfl
  · exact h.mem x hx
  · exact sealW_lt h.mem
theorem sealed_wL_length (x : Ino) : (sealed (wL x)).length = 8 := rfl
theorem fit_sealed {x : Ino} (h : Room x) (I B : Int) (hI : 2 ≤ I ∧ I ≤ 64) (hB : 4 ≤ B ∧ B ≤ 255) : fst7 (fitL (sealed (wL x)) I B) = (misV x I B).toNat := by
  have e : rdL (sealed (wL x)) = x := rd_wr h _
  have hm := mis_range x I B
  refine (wrong_is (sealed (wL x)) (wd_sealed (wd_wL h.small)) I B hI hB (misV x I B).toNat ?_).symm
  rw [e]
  refine ⟨Nat.le_refl _, fun j hj => ?_, fun hlt => absurd hlt (Nat.lt_irrefl _)⟩
  have : j = 0 ∨ j = 1 ∨ j = 2 ∨ j = 3 ∨ j = 4 ∨ j = 5 ∨ j = 6 := by omega
  rcases this with rfl | rfl | rfl | rfl | rfl | rfl | rfl <;> rfl
theorem bad_sealed {x : Ino} (h : Room x) (P I B : Int) : decBad (sealed (wL x)) P I B = if GOK P I B then (if misV x I B = 7 then none else some ((misV x I B).toNat, 7)) else some (0, 2) := by
  unfold decBad
  by_cases hg : GOK P I B
  · rw [if_neg (by simpa using hg), if_pos hg, if_neg (by rw [sealed_wL_length]; simp), if_neg (by simpa using isSealed_sealed (wL x)), fit_sealed h I B hg.2.1 hg.2.2]
    have hm := mis_range x I B
    by_cases h7 : misV x I B = 7
    · rw [if_pos h7, if_pos (by omega)]
    · rw [if_neg h7, if_neg (by omega)]
  · rw [if_pos hg, if_neg hg]
theorem dec_sealed {x : Ino} (h : Room x) (P I B : Int) : decI (sealed (wL x)) P I B = if mayB x P I B = true then x else zI := by
  unfold decI
  rw [bad_sealed h]
  by_cases hb : mayB x P I B = true
  · obtain ⟨h1, h2⟩ := mayB_iff.1 hb
    rw [if_pos hb, if_pos h1, if_pos h2]
    exact rd_wr h _
  · rw [if_neg hb]
    by_cases hg : GOK P I B
    · have h7 : ¬ misV x I B = 7 := fun h => hb (mayB_iff.2 ⟨hg, h⟩)
      rw [if_pos hg, if_neg h7]
    · rw [if_neg hg]
end Go.Proofs.YtppnicdhahgigaaDoor
