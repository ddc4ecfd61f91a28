/- The document's: a perm that is masked; has anybody the perm to run? -/
import Derived.Test.YtejhodjbgablaaaGi
set_option linter.unusedSimpArgs false
set_option linter.unusedVariables false
namespace Go.Proofs.Ytejhodjbgablaaa
open Go.RowKit
set_option maxRecDepth 100000 in
theorem masked_calls (x : Ac) (p : Lie) (q : Nat) (w : World) (hq : q < 256) (hm : x.ms < 256) : Calls Try.prog 45 #[x.v p, .int .u8 (q : Nat)] w fun e w' => e = .returned (.int .u8 (maskedN x q : Nat)) ∧ Below w.heap.size w w' := by
  have hb0 : Below w.heap.size w (w.alloc (.cells (x.c p) 28)) := (Below.refl _ _).alloc (Nat.le_refl _) _
  have HB := Lib.hid hb0
  obtain ⟨ow, gr, ot, us, gs, hm', ms⟩ := x
  simp only at hm
  have e8 := and8 q ms hq hm
  clear hb0
  cases hm'
  all_goals
    go_enter Try.func45, Try.ntmps45
    go_wp2_with (fail)
    go_ret
    exact ⟨rfl, HB.out⟩
theorem any_at {L : List Nm} {f : Nm → Bool} {k : Nat} {p : Nm} (hp : L[k]? = some p) (h : f p = true) : L.any f = true := List.any_eq_true.2 ⟨p, List.mem_of_getElem? hp, h⟩
theorem any_none {L : List Nm} {f : Nm → Bool} {n : Nat} (hn : L.length = n) (h : ∀ (j : Nat) p, j < n → L[j]? = some p → f p = false) : L.any f = false := List.any_eq_false.2 fun p hp => by
  obtain ⟨j, hj⟩ := List.getElem?_of_mem hp
  rw [h j p (by rw [← hn]; exact (List.getElem?_eq_some_iff.1 hj).1) hj]
  simp
theorem none_more {L : List Nm} {f : Nm → Bool} {k : Nat} {p : Nm} (hR : ∀ (j : Nat) q, j < k → L[j]? = some q → f q = false) (hp : L[k]? = some p) (h : f p = false) : ∀ (j : Nat) q, j < k + 1 → L[j]? = some q → f q = false := fun j q hj hq => by
  by_cases hh : j < k
  · exact hR j q hh hq
  · obtain rfl : j = k := by omega
    rw [hp] at hq
    cases hq
    exact h
set_option maxRecDepth 100000 in
set_option maxHeartbeats 8000000 in
theorem rruns_calls (x : Ac) (p : Lie) (w : World) (h : Lies w x p) (hs : Sm x) (hu : ∀ r ∈ x.us, r.pm < 256) (hg : ∀ r ∈ x.gs, r.pm < 256) (h1 : x.ow < 256) (h2 : x.gr < 256) (h3 : x.ot < 256) :
    Calls Try.prog 44 #[x.v p] w fun e w' => e = .returned (.bool (runsR x)) ∧ Below w.heap.size w w' := by
  obtain ⟨V, hV⟩ : ∃ V, V = w.alloc (.cells (x.c p) 28) := ⟨_, rfl⟩
  have hb : Below w.heap.size w V := by rw [hV]; exact (Below.refl _ _).alloc (Nat.le_refl _) _
  have hz : Ab V w.heap.size x p := by rw [hV]; exact Ab.new w x p
  have HB := Lib.hid hb
  have HZ := Lib.hid hz
  have HL := Lib.hid (h.below hb)
  have HU := Lib.hid hu
  have HG := Lib.hid hg
  have HV0 : Hid (runsR x = ((x.us.any fun p => hasB p.pm 1) || ((x.gs.any fun p => hasB p.pm 1) || (hasB x.ow 1 || (hasB x.gr 1 || hasB x.ot 1))))) := Lib.hid rfl
  have HH : Hid (∀ (q : Nat) (W : World), q < 256 → Calls Try.prog 43 #[.int .u8 (q : Nat), .int .u8 1] W fun e w' => e = .returned (.bool (hasB q 1)) ∧ w' = W) := Lib.hid (fun q W hq => has_calls q 1 W hq (by omega))
  obtain ⟨n, hn⟩ : ∃ n, x.us.length = n := ⟨_, rfl⟩
  obtain ⟨m, hm⟩ : ∃ m, x.gs.length = m := ⟨_, rfl⟩
  have HN := Lib.hid hn
  have HM := Lib.hid hm
  have hn40 : n ≤ 1099511627776 := by rw [← hn]; exact hs.us
  have hm40 : m ≤ 1099511627776 := by rw [← hm]; exact hs.gs
  have y0 : V.cell? ⟨w.heap.size, 0, none⟩ = some (.int .u8 (x.ow : Nat)) := hz.cell 0
  have y1 : V.cell? ⟨w.heap.size, 1, none⟩ = some (.int .u8 (x.gr : Nat)) := hz.cell 1
  have y2 : V.cell? ⟨w.heap.size, 2, none⟩ = some (.int .u8 (x.ot : Nat)) := hz.cell 2
  have y3 : V.cell? ⟨w.heap.size, 3, none⟩ = some (.slice p.A n p.c) := by rw [← hn]; exact hz.cell 3
  have y4 : V.cell? ⟨w.heap.size, 4, none⟩ = some (.slice p.B m p.d) := by rw [← hm]; exact hz.cell 4
  clear h hb hz hs hu hg hn hm
  go_enter Try.func44, Try.ntmps44
  go_upto_region 1 with (fail)
  rw [← hV]
  clear hV
  obtain ⟨b, hbx⟩ : ∃ b, w.heap.size = b := ⟨_, rfl⟩
  rw [hbx] at y0 y1 y2 y3 y4 ⊢
  have HBX := Lib.hid hbx
  clear hbx
  go_wp2_with (fail)
  go_loopw [3] (fun i wr => ∃ k : Nat, i = .int .i64 k ∧ k ≤ n ∧ Hid (∀ (j : Nat) q, j < k → x.us[j]? = some q → hasB q.pm 1 = false) ∧ wr = V) (fun i _ => n - (intOf i).toNat)
  case atStart => exact ⟨0, rfl, by omega, Lib.hid (fun j q hj => absurd hj (Nat.not_lt_zero _)), rfl⟩
  case round =>
    obtain ⟨k, rfl, hk, hR, rfl⟩ := hrel
    by_cases hkn : k < n
    · obtain ⟨b1, o1, hA, hlt, hcell⟩ := HL.out.us.nm (by rw [HN.out]; omega)
      rw [hA] at y3
      obtain ⟨r, hp⟩ : ∃ r, x.us[k]? = some r := ⟨_, List.getElem?_eq_getElem (by rw [HN.out]; exact hkn)⟩
      obtain ⟨e1, e2⟩ := hcell k r hp
      have HP := Lib.hid hp
      have HK := Lib.hid (HH.out r.pm wr (HU.out r (List.mem_of_getElem? hp)))
      clear hp hcell
      cases hr : hasB r.pm 1
      case true =>
        have HV : Hid (runsR x = true) := Lib.hid (by rw [HV0.out, any_at HP.out hr]; rfl)
        rw [hr] at HK
        clear hr
        go_wp2_with (fail)
        refine HK.out.mono ?_
        rintro e w' ⟨rfl, rfl⟩
        go_wp2_with (fail)
        go_ret
        exact ⟨by rw [HV.out]; rfl, HB.out⟩
      case false =>
        have HR2 := Lib.hid (none_more hR.out HP.out hr)
        rw [hr] at HK
        clear hr
        go_wp2_with (fail)
        refine HK.out.mono ?_
        rintro e w' ⟨rfl, rfl⟩
        go_wp2_with (fail)
        go_roundw
        case rel => exact ⟨k + 1, by go_num, by omega, HR2, trivial⟩
        case measure => simp [intOf]; omega
    · obtain rfl : k = n := by omega
      have HV1 : Hid (runsR x = ((x.gs.any fun p => hasB p.pm 1) || (hasB x.ow 1 || (hasB x.gr 1 || hasB x.ot 1)))) := Lib.hid (by rw [HV0.out, any_none HN.out hR.out]; rfl)
      clear hR HV0 hkn hk
      go_wp2_with (fail)
      go_loopw [4] (fun i wr2 => ∃ k : Nat, i = .int .i64 k ∧ k ≤ m ∧ Hid (∀ (j : Nat) q, j < k → x.gs[j]? = some q → hasB q.pm 1 = false) ∧ wr2 = wr) (fun i _ => m - (intOf i).toNat)
      case atStart => exact ⟨0, rfl, by omega, Lib.hid (fun j q hj => absurd hj (Nat.not_lt_zero _)), rfl⟩
      case round =>
        obtain ⟨k2, rfl, hk, hR, rfl⟩ := hrel
        by_cases hkn : k2 < m
        · obtain ⟨b1, o1, hA, hlt, hcell⟩ := HL.out.gs.nm (by rw [HM.out]; omega)
          rw [hA] at y4
          obtain ⟨r, hp⟩ : ∃ r, x.gs[k2]? = some r := ⟨_, List.getElem?_eq_getElem (by rw [HM.out]; exact hkn)⟩
          obtain ⟨e1, e2⟩ := hcell k2 r hp
          have HP := Lib.hid hp
          have HK := Lib.hid (HH.out r.pm wr (HG.out r (List.mem_of_getElem? hp)))
          clear hp hcell
          cases hr : hasB r.pm 1
          case true =>
            have HV : Hid (runsR x = true) := Lib.hid (by rw [HV1.out, any_at HP.out hr]; rfl)
            rw [hr] at HK
            clear hr
            go_wp2_with (fail)
            refine HK.out.mono ?_
            rintro e w' ⟨rfl, rfl⟩
            go_wp2_with (fail)
            go_ret
            exact ⟨by rw [HV.out]; rfl, HB.out⟩
          case false =>
            have HR2 := Lib.hid (none_more hR.out HP.out hr)
            rw [hr] at HK
            clear hr
            go_wp2_with (fail)
            refine HK.out.mono ?_
            rintro e w' ⟨rfl, rfl⟩
            go_wp2_with (fail)
            go_roundw
            case rel => exact ⟨k2 + 1, by go_num, by omega, HR2, trivial⟩
            case measure => simp [intOf]; omega
        · obtain rfl : k2 = m := by omega
          have HV2 : Hid (runsR x = (hasB x.ow 1 || (hasB x.gr 1 || hasB x.ot 1))) := Lib.hid (by rw [HV1.out, any_none HM.out hR.out]; rfl)
          have HK1 := Lib.hid (HH.out x.ow wr h1)
          have HK2 := Lib.hid (HH.out x.gr wr h2)
          have HK3 := Lib.hid (HH.out x.ot wr h3)
          clear hR HV1 hkn hk
          go_wp2_with (fail)
          refine HK1.out.mono ?_
          rintro e w' ⟨rfl, rfl⟩
          generalize hasB x.ow 1 = t1 at *
          cases t1
          case true =>
            go_wp2_with (fail)
            go_ret
            exact ⟨by rw [HV2.out]; rfl, HB.out⟩
          case false =>
          go_wp2_with (fail)
          refine HK2.out.mono ?_
          rintro e w' ⟨rfl, rfl⟩
          generalize hasB x.gr 1 = t2 at *
          cases t2
          case true =>
            go_wp2_with (fail)
            go_ret
            exact ⟨by rw [HV2.out]; rfl, HB.out⟩
          case false =>
          go_wp2_with (fail)
          refine HK3.out.mono ?_
          rintro e w' ⟨rfl, rfl⟩
          go_wp2_with (fail)
          go_ret
          exact ⟨by rw [HV2.out]; rfl, HB.out⟩
end Go.Proofs.Ytejhodjbgablaaa
