/- Changes of the model. -/
import Derived.Test.YtkilepoimocoeaaChI
import Derived.Test.YtkilepoimocoeaaKeptS
import Derived.Test.YtkilepoimocoeaaCopyS
import Derived.Test.YtkilepoimocoeaaStepT
import Derived.Test.YtkilepoimocoeaaAfter
import Derived.Test.YtkilepoimocoeaaSet6
import Derived.Deep.RegionLaw
import Derived.Deep.CutBlock
namespace Go.Proofs.Ytkilepoimocoeaa
open Go.RowKit
set_option linter.unusedVariables false
theorem madeR (w : World) (base : Nat) (h : base ≤ w.heap.size) : OwnR (w.alloc (.cells #[] 43)) base (.slice (some ⟨w.heap.size, 0, none⟩) 0 0) [] := World.ownsRow_made w #[] 0 h (by decide) rfl
/-- The records so far. -/
def ChO (X : World) (base : Nat) (l : List Rc) (u : Value) (y : World) : Prop := OwnR y base u l ∧ Below base X y
theorem rc_news {w : World} (r : Rc) (t : TypeId) : ∀ j u, (rcF [r])[j]? = some u → (w.alloc (.cells #[.int .i64 r.k, .int .i64 r.t, .int .i64 r.i, .int .i64 r.v, .string r.d] t)).cell? ((⟨w.heap.size, 0, none⟩ : Addr).add j) = some u := by
  intro j u hu
  simp only [rcF, rcC, List.flatMap_cons, List.flatMap_nil, List.append_nil] at hu
  rcases j with _ | _ | _ | _ | _ | j <;> simp at hu <;> subst hu <;> simp [Addr.add, go_sem]
theorem RowE.at9 {w : World} {N n cap : Nat} {a : Option Addr} {L : List En} (h : RowE w N (.slice a n cap) L) : L ≠ [] → ∃ b off, a = some ⟨b, off, none⟩ ∧ b < N ∧ ∀ j (hj : j < L.length), w.cell? ⟨b, off + j * 2, none⟩ = some (.int .i64 L[j].t) ∧ w.cell? ⟨b, off + j * 2 + 1, none⟩ = some (.string L[j].d) := by
  obtain ⟨a1, c1, e, -, -, hc⟩ := h
  cases e
  exact hc
theorem ents_next {A B : Kp} {E : List En} {X wr W5 w5 : World} {base k n j g cap' : Nat} {u : Value} {eb : En} {ix : Int} (h : ChO X base (headL A B ++ cutL B E ++ entsL B k n) u wr) (hj : j = k + n) (hg : B.e.getD j ⟨0, ⟨#[]⟩⟩ = eb) (hix : ix = B.si + (j : Nat) + 1) (hz : base ≤ wr.heap.size) (hb : Below wr.heap.size wr W5) (ho : Only (fun k => some k = u.ownBlock) W5 w5)
    (o : OwnR w5 base (.slice (some ⟨g, 0, none⟩) ((headL A B ++ cutL B E ++ entsL B k n).length + 1) cap') ((headL A B ++ cutL B E ++ entsL B k n) ++ [⟨2, eb.t, ix, 0, eb.d⟩])) : Hid (ChO X base (headL A B ++ cutL B E ++ entsL B k (n + 1)) (.slice (some ⟨g, 0, none⟩) ((headL A B ++ cutL B E ++ entsL B k n).length + 1) cap') w5) := by
  subst hj hg hix
  refine ⟨?_, h.2.trans ((hb.mono hz).trans (ho.below (by have := hb.size; omega) fun k hk e => by have := (h.1.lt k e.symm).1; omega))⟩
  rw [entsL, ← List.append_assoc]
  exact o
/-- What the record of an entry is made of. -/
structure ChF (bk b2 o2 m cb j : Nat) (si t : Int) (d : ByteArray) (y : World) : Prop where
  c5 : y.cell? ⟨bk, 5, none⟩ = some (.slice (some ⟨b2, o2, none⟩) m cb)
  c2 : y.cell? ⟨bk, 2, none⟩ = some (.int .i64 si)
  t : y.cell? ⟨b2, o2 + j * 2, none⟩ = some (.int .i64 t)
  d : y.cell? ⟨b2, o2 + j * 2 + 1, none⟩ = some (.string d)
/-- The variable x of the third loop. -/
structure FV9 (u : World) (b base : Nat) (K : Kp) (v : Value) : Prop where
  hi : b < u.heap.size
  cell : ∀ o, u.cell? ⟨b, o, none⟩ = #[.int .i64 K.t, .int .i64 K.v, .int .i64 K.si, .int .i64 K.st, .string K.sd, v][o]?
  fro : ∀ o, u.frozen? ⟨b, o, none⟩ = false
  own : OwnE u base v K.e
  ne : ∀ k, v.ownBlock = some k → ¬ k = b
def SFo9 (K : Kp) (v : Value) (kb b o : Nat) (r : Rc) (w' : World) : Prop := w'.cell? ⟨kb, 0, none⟩ = some (.int .i64 K.t) ∧ w'.cell? ⟨kb, 1, none⟩ = some (.int .i64 K.v) ∧ w'.cell? ⟨kb, 2, none⟩ = some (.int .i64 K.si) ∧ w'.cell? ⟨kb, 3, none⟩ = some (.int .i64 K.st) ∧ w'.cell? ⟨kb, 4, none⟩ = some (.string K.sd) ∧ w'.cell? ⟨kb, 5, none⟩ = some v ∧ w'.cell? ⟨b, o, none⟩ = some (.int .i64 r.k) ∧ w'.cell? ⟨b, o + 1, none⟩ = some (.int .i64 r.t) ∧ w'.cell? ⟨b, o + 2, none⟩ = some (.int .i64 r.i) ∧ w'.cell? ⟨b, o + 3, none⟩ = some (.int .i64 r.v) ∧ w'.cell? ⟨b, o + 4, none⟩ = some (.string r.d)
theorem RowR.at9 {w : World} {N n cap : Nat} {a : Option Addr} {L : List Rc} (h : RowR w N (.slice a n cap) L) : L ≠ [] → ∃ b off, a = some ⟨b, off, none⟩ ∧ b < N ∧ ∀ j (hj : j < L.length), w.cell? ⟨b, off + j * 5, none⟩ = some (.int .i64 L[j].k) ∧ w.cell? ⟨b, off + j * 5 + 1, none⟩ = some (.int .i64 L[j].t) ∧ w.cell? ⟨b, off + j * 5 + 2, none⟩ = some (.int .i64 L[j].i) ∧ w.cell? ⟨b, off + j * 5 + 3, none⟩ = some (.int .i64 L[j].v) ∧ w.cell? ⟨b, off + j * 5 + 4, none⟩ = some (.string L[j].d) := by
  obtain ⟨a1, c1, e, -, -, hc⟩ := h
  cases e
  exact hc
theorem haveE_len9 (A B : Kp) (ha : keptB A = true) (hb : keptB B = true) : (haveE A B).length ≤ 60 := by
  have h := (Sm.of ha).2.2
  unfold haveE
  split
  · unfold behL
    split <;> simp <;> omega
  · exact h
set_option maxRecDepth 100000 in
set_option maxHeartbeats 40000000 in
theorem specChanges_any (A B : Kp) (va vb : Value) (N : Nat) (w : World) (hN : N ≤ w.heap.size) (ha : RowE w N va A.e) (hb : RowE w N vb B.e) :
    Calls Try.prog 22 #[kpV A va, kpV B vb] w fun e w' => ChP A B w e w' := by
  have HA := Hid.intro ha
  have HBR := Hid.intro hb
  obtain ⟨aa, ca, rfl, -, -, -⟩ := ha
  obtain ⟨ab, cb, rfl, lb, mb, -⟩ := hb
  go_enter Try.func22, Try.ntmps22
  go_wp2_with fail
  obtain ⟨W0, hW, bW0, zW0, c1, f1, c2, f2⟩ := boxed2 w #[.int .i64 A.t, .int .i64 A.v, .int .i64 A.si, .int .i64 A.st, .string A.sd, .slice aa A.e.length ca] #[.int .i64 B.t, .int .i64 B.v, .int .i64 B.si, .int .i64 B.st, .string B.sd, .slice ab B.e.length cb] 28 28
  try simp only [hW]
  have HNO := Hid.intro (madeR W0 w.heap.size (by omega))
  have bY := (Below.refl W0.heap.size W0).alloc (Nat.le_refl _) (.cells #[] 43)
  have zY : (W0.alloc (.cells #[] 43)).heap.size = W0.heap.size + 1 := by simp
  rw [zW0] at HNO
  generalize W0.alloc (.cells #[] 43) = W at HNO bY zY ⊢
  replace c1 := keepC bY (by omega) c1
  replace c2 := keepC bY (by omega) c2
  have bW := bW0.trans (bY.mono (by omega))
  have zW : W.heap.size = w.heap.size + 1 + 1 + 1 := by omega
  clear hW bW0 zW0 f1 f2 bY zY
  refine (specKeptOk_any A _ N W (by omega) (HA.out.kept (bW.mono hN))).mono ?_
  rintro e w1 ⟨rfl, b1⟩
  replace c1 := keepC b1 (by omega) c1
  replace c2 := keepC b1 (by omega) c2
  replace HNO := Hid.intro (HNO.out.kept b1)
  have HB := Hid.intro (bW.trans (b1.mono (by omega)))
  have z1 : w.heap.size + 1 + 1 < w1.heap.size := by have := b1.size; omega
  clear bW zW b1
  cases hka : keptB A with
  | false =>
    go_wp2
    go_ret2
    exact ⟨.slice (some ⟨w.heap.size + 1 + 1, 0, none⟩) 0 0, by rw [chB_no1 hka]; rfl, by rw [chR_no (chB_no1 hka)]; exact HNO.out, HB.out⟩
  | true =>
    go_wp2_with fail
    refine (specKeptOk_any B _ N w1 (by omega) (HBR.out.kept (HB.out.mono hN))).mono ?_
    rintro e w2 ⟨rfl, b2⟩
    replace c1 := keepC b2 (by omega) c1
    replace c2 := keepC b2 (by omega) c2
    replace HNO := Hid.intro (HNO.out.kept b2)
    replace HB := Hid.intro (HB.out.trans (b2.mono HB.out.size))
    have z2 : w.heap.size + 1 + 1 < w2.heap.size := by have := b2.size; omega
    clear b2 z1
    cases hkb : keptB B with
    | false =>
      go_wp2
      go_ret2
      exact ⟨.slice (some ⟨w.heap.size + 1 + 1, 0, none⟩) 0 0, by rw [chB_no2 hkb]; rfl, by rw [chR_no (chB_no2 hkb)]; exact HNO.out, HB.out⟩
    | true =>
      have hsa := Sm.of hka
      have hsb := Sm.of hkb
      have hla := hsa.2.2
      have hlb := hsb.2.2
      have ha1 := hsa.1
      have ha2 := hsa.2.1
      have hb1 := hsb.1
      have hb2 := hsb.2.1
      have HSA := Hid.intro hsa
      clear hsa hsb
      go_upto_region 5 with fail
      have HO0 := Hid.intro (madeR w2 w2.heap.size (Nat.le_refl _))
      have bY := (Below.refl w2.heap.size w2).alloc (Nat.le_refl _) (.cells #[] 43)
      generalize hbase : w2.heap.size = base at *
      generalize w2.alloc (.cells #[] 43) = X at HO0 bY ⊢
      have HC1 : Hid (∀ y, Below base X y → (∀ o, y.cell? ⟨w.heap.size, o, none⟩ = #[.int .i64 A.t, .int .i64 A.v, .int .i64 A.si, .int .i64 A.st, .string A.sd, .slice aa A.e.length ca][o]?) ∧ (∀ o, y.cell? ⟨w.heap.size + 1, o, none⟩ = #[.int .i64 B.t, .int .i64 B.v, .int .i64 B.si, .int .i64 B.st, .string B.sd, .slice ab B.e.length cb][o]?) ∧ OwnR y w.heap.size (.slice (some ⟨w.heap.size + 1 + 1, 0, none⟩) 0 0) [] ∧ Below w.heap.size w y ∧ base ≤ y.heap.size) := fun y hy => by
        have hh := bY.trans hy
        exact ⟨keepC hh (by omega) c1, keepC hh (by omega) c2, HNO.out.keptB hh (fun k hk => by simp only [Value.ownBlock, Option.some.injEq] at hk; omega), HB.out.trans (hh.mono (by omega)), by have := hh.size; omega⟩
      obtain ⟨d1, d2, _, _, zb⟩ := HC1.out X (Below.refl _ _)
      clear c1 c2 bY HNO HB
      go_cut [37] from 15 (fun s wc => s = .bool (hardD A B) ∧ X = wc)
      case first =>
        by_cases ht : A.t = B.t
        · have n1 : (A.t == B.t) = true := by simpa using ht
          have n1' : (A.t != B.t) = false := by simp [ht]
          by_cases hv : A.v = B.v
          · have n2 : (A.v == B.v) = true := by simpa using hv
            have n2' : (A.v != B.v) = false := by simp [hv]
            have hd : hardD A B = false := by simp [hardD, ht, hv]
            have HD := Hid.intro hd
            clear ht hv hd
            go_wp2_with fail
            go_meet
            case rel => exact ⟨by rw [HD.out], by first | rfl | trivial⟩
          · have n2 : (A.v == B.v) = false := by simpa using hv
            have n2' : (A.v != B.v) = true := by simpa using hv
            have hd : hardD A B = true := by simp [hardD, hv]
            have HD := Hid.intro hd
            clear ht hv hd
            go_wp2_with fail
            go_meet
            case rel => exact ⟨by rw [HD.out], by first | rfl | trivial⟩
        · have n1 : (A.t == B.t) = false := by simpa using ht
          have n1' : (A.t != B.t) = true := by simpa using ht
          have hd : hardD A B = true := by simp [hardD, ht]
          have HD := Hid.intro hd
          clear ht hd
          go_wp2_with fail
          go_meet
          case rel => exact ⟨by rw [HD.out], by first | rfl | trivial⟩
      case rest =>
      obtain ⟨rfl, hwx⟩ := hcut
      subst hwx
      go_upto_if 37 with fail
      go_cut [7] from 15 (fun s wc => ∃ a m c, s = .slice a m c ∧ ChO X base (hardL A B) (.slice a m c) wc)
      case first =>
        cases hd : hardD A B with
        | true =>
          go_wp2_with (at_builtin; refine app_R rfl _ _ rfl base (.slice (some ⟨base, 0, none⟩) 0 0) [] [⟨1, B.t, 0, B.v, ⟨#[]⟩⟩] rfl (HO0.out.kept ((Below.refl _ _).alloc (Nat.le_refl _) _)) ⟨X.heap.size, 0, none⟩ 1 rfl (rc_news ⟨1, B.t, 0, B.v, ⟨#[]⟩⟩ _) (by simp) (by simp; omega) (by simp) ?_; intro g cap' w7 o7 hO7 hloc; have HQ : Hid (ChO X base (hardL A B) (.slice (some ⟨g, 0, none⟩) 1 cap') w7) := (by refine ⟨by rw [hardL, if_pos hd]; exact o7, ((Below.refl _ _).alloc (by omega) _).trans (hO7.below (by simp; omega) (fun k hk e => by simp only [Value.ownBlock, Option.some.injEq] at e; omega))⟩); clear o7 hO7 hloc)
          go_meet
          case rel => exact ⟨_, _, _, rfl, HQ.out⟩
        | false =>
          have HQ : Hid (ChO X base (hardL A B) (.slice (some ⟨base, 0, none⟩) 0 0) X) := ⟨by rw [hardL, if_neg (by simp [hd])]; exact HO0.out, Below.refl _ _⟩
          go_wp2_with fail
          go_meet
          case rel => exact ⟨_, _, _, rfl, HQ.out⟩
      case rest =>
      obtain ⟨y1, hy1⟩ : ∃ y, y = wc := ⟨_, rfl⟩
      subst hy1
      obtain ⟨au1, mu1, cu1, rfl, o1, b1⟩ := hcut
      have HO := Hid.intro o1
      have HBX := Hid.intro b1
      obtain ⟨d1, d2, _, B1, zy1⟩ := HC1.out y1 b1
      have HBB := Hid.intro B1
      have hl1 : (hardL A B).length ≤ 1 := by unfold hardL; split <;> simp
      clear o1 b1 B1 HO0
      go_upto_region 8 with fail
      go_cut [52] from 15 (fun s wc => s = .bool (snapD A B) ∧ y1 = wc)
      case first =>
        by_cases hi : A.si = B.si
        · have n1 : (A.si == B.si) = true := by simpa using hi
          by_cases ht : A.st = B.st
          · have n2 : (A.st == B.st) = true := by simpa using ht
            by_cases hd : A.sd = B.sd
            · have HD : Hid (snapD A B = false) := by unfold Hid; simp [snapD, hi, ht, hd]
              clear n1 n2
              obtain ⟨At, Av, Asi, Ast, Asd, Ae⟩ := A
              obtain ⟨Bt, Bv, Bsi, Bst, Bsd, Be⟩ := B
              simp only at hi ht hd d1 d2 ⊢
              subst hi ht hd
              go_wp2_with fail
              go_meet
              case rel => exact ⟨by rw [HD.out], by first | rfl | trivial⟩
            · have HD : Hid (snapD A B = true) := by unfold Hid; simp [snapD, hd]
              have n3 : ¬ A.sd.toList = B.sd.toList := fun h => hd (bytes_eq9 h)
              have n4 : (A.sd.toList == B.sd.toList) = false := by simpa using n3
              clear hd
              go_wp2_with fail
              go_meet
              case rel => exact ⟨by rw [HD.out], by first | rfl | trivial⟩
          · have n2 : (A.st == B.st) = false := by simpa using ht
            have HD : Hid (snapD A B = true) := by unfold Hid; simp [snapD, ht]
            go_wp2_with fail
            go_meet
            case rel => exact ⟨by rw [HD.out], by first | rfl | trivial⟩
        · have n1 : (A.si == B.si) = false := by simpa using hi
          have HD : Hid (snapD A B = true) := by unfold Hid; simp [snapD, hi]
          go_wp2_with fail
          go_meet
          case rel => exact ⟨by rw [HD.out], by first | rfl | trivial⟩
      case rest =>
      obtain ⟨rfl, hwx⟩ := hcut
      subst hwx
      go_upto_if 52 with fail
      go_cut [7, 8] from 15 (fun s s' wc => ∃ a m c ha hc, s = .slice a m c ∧ s' = .slice ha (haveE A B).length hc ∧ ChO X base (headL A B) (.slice a m c) wc ∧ RowE wc wc.heap.size (.slice ha (haveE A B).length hc) (haveE A B))
      case first =>
        cases hd : snapD A B with
        | true =>
          go_upto_region 10 with (at_builtin; refine app_R rfl _ _ rfl base (.slice au1 mu1 cu1) (hardL A B) [⟨4, B.st, B.si, 0, B.sd⟩] rfl (HO.out.kept ((Below.refl _ _).alloc (Nat.le_refl _) _)) ⟨y1.heap.size, 0, none⟩ 1 rfl (rc_news ⟨4, B.st, B.si, 0, B.sd⟩ _) (by simp; omega) (by simp; omega) (by simp) ?_; intro g cap' w7 o7 hO7 hloc; have HQ : Hid (ChO X base (headL A B) (.slice (some ⟨g, 0, none⟩) ((hardL A B).length + 1) cap') w7) := (by refine ⟨by rw [headL, snapL, if_pos hd]; exact o7, HBX.out.trans (((Below.refl _ _).alloc zy1 _).trans (hO7.below (by simp; omega) (fun k hk e => by have := (HO.out.lt k e.symm).1; omega)))⟩); clear o7 hO7 hloc)
          obtain ⟨e1, e2, _, B7, z7⟩ := HC1.out w7 HQ.out.2
          have HB7 := Hid.intro B7
          have h7s := Hid.intro (HB7.out.size)
          clear B7 d1 d2
          go_wp2_with fail
          refine (l3Behind_any A _ N B.si B.st w7 (by have := h7s.out; omega) (HA.out.kept (HB7.out.mono hN)) ⟨by omega, by omega⟩ (by omega) (by omega)).mono ?_
          rintro e w8 ⟨v8, rfl, o8, b8⟩
          obtain ⟨a8, c8, rfl⟩ := o8.slice
          have he : haveE A B = behL A.e (B.si - A.si) B.st := by rw [haveE, if_pos hd]
          have HQ8 : Hid (ChO X base (headL A B) (.slice (some ⟨g, 0, none⟩) ((hardL A B).length + 1) cap') w8) := ⟨HQ.out.1.kept b8, HQ.out.2.trans (b8.mono z7)⟩
          have HH : Hid (RowE w8 w8.heap.size (.slice a8 (behL A.e (B.si - A.si) B.st).length c8) (haveE A B)) := by unfold Hid; rw [he]; exact o8.rowAll
          have HE := Hid.intro he
          clear he o8 b8
          go_wp2_with fail
          go_meet
          case rel => exact ⟨_, _, _, a8, c8, rfl, by rw [HE.out], HQ8.out, by have := HH.out; rw [HE.out] at this ⊢; exact this⟩
        | false =>
          have HQ : Hid (ChO X base (headL A B) (.slice au1 mu1 cu1) y1) := ⟨by rw [headL, snapL, if_neg (by simp [hd]), List.append_nil]; exact HO.out, HBX.out⟩
          have he : haveE A B = A.e := by rw [haveE, if_neg (by simp [hd])]
          have HH : Hid (RowE y1 y1.heap.size (.slice aa (haveE A B).length ca) (haveE A B)) := by unfold Hid; rw [he]; exact (HA.out.kept (HBB.out.mono hN)).up (by omega)
          have HE := Hid.intro he
          clear he
          go_wp2_with fail
          go_meet
          case rel => exact ⟨_, _, _, aa, ca, rfl, by rw [HE.out], HQ.out, HH.out⟩
      case rest =>
      obtain ⟨y2, hy2⟩ : ∃ y, y = wc := ⟨_, rfl⟩
      subst hy2
      obtain ⟨au2, mu2, cu2, ah, ch, rfl, rfl, ⟨o2, b2⟩, rh⟩ := hcut
      have HO2 := Hid.intro o2
      have HBX2 := Hid.intro b2
      obtain ⟨d1, d2, _, B2, zy2⟩ := HC1.out y2 b2
      have HBB2 := Hid.intro B2
      have HRB : Hid (RowE y2 y2.heap.size (.slice ab B.e.length cb) B.e) := (HBR.out.kept (B2.mono hN)).up (by have := B2.size; omega)
      have hmu2 : Hid (mu2 = (headL A B).length) := by
        obtain ⟨_, _, h⟩ := o2.slice
        cases h
        rfl
      have hle := haveE_len9 A B hka hkb
      have HEE : Hid (∃ E, E = haveE A B) := ⟨_, rfl⟩
      generalize hE : haveE A B = E at rh hle ⊢
      have HE := Hid.intro hE
      clear o2 b2 B2 HO HBX HBB hE HEE
      obtain ⟨a9, c9, h, l1, m1, hc1⟩ := rh
      cases h
      have HH := Hid.intro hc1
      clear hc1
      go_upto_block 0 with fail
      go_cut [9] from 15 (fun s wc => s = .int .i64 (alikeN E B.e) ∧ Below y2.heap.size y2 wc)
      case first =>
        go_wp2_with fail
        have HRB2 := Hid.intro (RowE.at9 HRB.out)
        clear d1 d2
        go_loopw [9] (fun i wr => ∃ (j : Nat), i = .int .i64 j ∧ j ≤ E.length ∧ j ≤ B.e.length ∧ Hid (alikeN E B.e = j + alikeN (E.drop j) (B.e.drop j)) ∧ Below y2.heap.size y2 wr) (fun i _ => E.length - (intOf i).toNat)
        case atStart => exact ⟨0, rfl, Nat.zero_le _, Nat.zero_le _, by unfold Hid; simp, Below.refl _ _⟩
        case round =>
          obtain ⟨j, rfl, hj1, hj2, HAE, hbel⟩ := hrel
          have HB := Hid.intro hbel
          obtain ⟨_, g2, _, _, _⟩ := HC1.out wr (HBX2.out.trans (hbel.mono zy2))
          have g25 := g2 5
          simp only [List.getElem?_toArray] at g25
          clear hbel g2
          by_cases hl1 : j < E.length
          · by_cases hl2 : j < B.e.length
            · have hne1 : E ≠ [] := by intro h; rw [h] at hl1; simp at hl1
              have hne2 : B.e ≠ [] := by intro h; rw [h] at hl2; simp at hl2
              obtain ⟨b1, o1, rfl, hb1', cc1⟩ := HH.out hne1
              obtain ⟨b2, o2, rfl, hb2', cc2⟩ := HRB2.out hne2
              obtain ⟨p0, p1⟩ := cc1 j hl1
              obtain ⟨q0, q1⟩ := cc2 j hl2
              have hat := alikeN_at E B.e j hl1 hl2
              generalize E[j] = ea at p0 p1 hat
              generalize B.e[j] = eb at q0 q1 hat
              have hp0 := atCell HB.out p0 (by omega)
              have hp1 := atCell HB.out p1 (by omega)
              have hq0 := atCell HB.out q0 (by omega)
              have hq1 := atCell HB.out q1 (by omega)
              have HAT := Hid.intro hat
              have i1 : (j : Int) < (E.length : Int) := by omega
              have i2 : (j : Int) < (B.e.length : Int) := by omega
              clear cc1 cc2 p0 p1 q0 q1 hne1 hne2 hat
              by_cases ht : ea.t = eb.t
              · by_cases hd : ea.d = eb.d
                · obtain ⟨t1, d1⟩ := ea
                  obtain ⟨t2, d2⟩ := eb
                  simp only at ht hd hp0 hp1 hq0 hq1
                  subst ht
                  subst hd
                  go_wp2
                  go_quiet (fail)
                  go_wp2
                  go_roundw
                  case rel => exact ⟨j + 1, by go_num, by omega, by omega, by have h1 := HAE.out; have h2 := HAT.out; unfold Hid; rw [h1, h2]; simp [eqE]; omega, by first | exact HB.out | exact below_drewN9 HB.out _⟩
                  case measure => simp [intOf]; omega
                · have n1 : ¬ ea.d.toList = eb.d.toList := fun h => hd (bytes_eq9 h)
                  have n2 : (ea.d.toList == eb.d.toList) = false := by simpa using n1
                  have hz : eqE ea eb = false := by simp [eqE, hd]
                  have HZ := Hid.intro hz
                  clear hd hz
                  obtain ⟨t1, d1⟩ := ea
                  obtain ⟨t2, d2⟩ := eb
                  simp only at ht hp0 hp1 hq0 hq1 n1 n2
                  subst ht
                  go_wp2
                  go_quiet (fail)
                  go_wp2_with fail
                  go_meet
                  case rel => exact ⟨by have h1 := HAE.out; have h2 := HAT.out; rw [h1, h2, HZ.out]; simp, by first | exact HB.out | exact below_drewN9 HB.out _⟩
              · have n1 : (ea.t == eb.t) = false := by simpa using ht
                have hz : eqE ea eb = false := by simp [eqE, ht]
                have HZ := Hid.intro hz
                clear hz
                go_wp2
                go_quiet (fail)
                go_wp2_with fail
                go_meet
                case rel => exact ⟨by have h1 := HAE.out; have h2 := HAT.out; rw [h1, h2, HZ.out]; simp, by first | exact HB.out | exact below_drewN9 HB.out _⟩
            · have i1 : (j : Int) < (E.length : Int) := by omega
              have i2 : decide ((j : Int) < (B.e.length : Int)) = false := decide_eq_false (by omega)
              have HN := Hid.intro (alikeN_end E B.e j (by omega))
              go_wp2
              go_quiet (fail)
              go_wp2_with fail
              go_meet
              case rel => exact ⟨by have h1 := HAE.out; rw [h1, HN.out]; simp, by first | exact HB.out | exact below_drewN9 HB.out _⟩
          · have i1 : decide ((j : Int) < (E.length : Int)) = false := decide_eq_false (by omega)
            have HN := Hid.intro (alikeN_end E B.e j (by omega))
            go_wp2
            go_quiet (fail)
            go_wp2_with fail
            go_meet
            case rel => exact ⟨by have h1 := HAE.out; rw [h1, HN.out]; simp, by first | exact HB.out | exact below_drewN9 HB.out _⟩
      case rest =>
      obtain ⟨y3, hy3⟩ : ∃ y, y = wc := ⟨_, rfl⟩
      subst hy3
      obtain ⟨rfl, b3⟩ := hcut
      have HO3 := Hid.intro (HO2.out.kept b3)
      have HBX3 := Hid.intro (HBX2.out.trans (b3.mono zy2))
      obtain ⟨d1, d2, _, _, zy3⟩ := HC1.out y3 HBX3.out
      have hkE := (alikeN_le E B.e).1
      have hkB := (alikeN_le E B.e).2
      have hh2 := headL_len A B
      generalize hk : alikeN E B.e = k at *
      have HK := Hid.intro hk
      clear b3 hk
      go_upto_if 102 with fail
      go_cut [7] from 15 (fun s wc => ∃ a m c, s = .slice a m c ∧ ChO X base (headL A B ++ cutL B E) (.slice a m c) wc)
      case first =>
        by_cases hd : k < E.length
        · have hd' : (k : Int) < (E.length : Int) := by omega
          go_wp2_with (at_builtin; refine app_R rfl _ _ rfl base (.slice au2 mu2 cu2) (headL A B) [⟨3, 0, B.si + k + 1, 0, ⟨#[]⟩⟩] rfl (HO3.out.kept ((Below.refl _ _).alloc (Nat.le_refl _) _)) ⟨y3.heap.size, 0, none⟩ 1 rfl (rc_news ⟨3, 0, B.si + k + 1, 0, ⟨#[]⟩⟩ _) (by simp; omega) (by simp; omega) (by simp) ?_; intro g cap' w7 o7 hO7 hloc; have HQ : Hid (ChO X base (headL A B ++ cutL B E) (.slice (some ⟨g, 0, none⟩) ((headL A B).length + 1) cap') w7) := (by refine ⟨by rw [cutL, HK.out, if_pos hd]; exact o7, HBX3.out.trans (((Below.refl _ _).alloc zy3 _).trans (hO7.below (by simp; omega) (fun k hk e => by have := (HO3.out.lt k e.symm).1; omega)))⟩); clear o7 hO7 hloc)
          go_meet
          case rel => exact ⟨_, _, _, rfl, HQ.out⟩
        · have hd' : ¬ (k : Int) < (E.length : Int) := by omega
          have HQ : Hid (ChO X base (headL A B ++ cutL B E) (.slice au2 mu2 cu2) y3) := ⟨by rw [cutL, HK.out, if_neg hd, List.append_nil]; exact HO3.out, HBX3.out⟩
          go_wp2_with fail
          go_meet
          case rel => exact ⟨_, _, _, rfl, HQ.out⟩
      case rest =>
      obtain ⟨y4, hy4⟩ : ∃ y, y = wc := ⟨_, rfl⟩
      subst hy4
      obtain ⟨au4, mu4, cu4, rfl, o4, b4⟩ := hcut
      have HO4 := Hid.intro o4
      have HBX4 := Hid.intro b4
      obtain ⟨d1, d2, _, _, zy4⟩ := HC1.out y4 b4
      have hl3 : (headL A B ++ cutL B E).length ≤ 3 := by unfold cutL; split <;> simp <;> omega
      clear o4 b4
      have hl4 : ∀ n, (headL A B ++ cutL B E ++ entsL B k n).length ≤ 3 + n := fun n => by rw [List.length_append, entsL_len]; omega
      go_wp2_with fail
      have HRB2 := Hid.intro (RowE.at9 HBR.out)
      clear d1 d2
      go_loopw [7, 10] (fun s i wr => ∃ (j n : Nat) (a : Option Addr) (m c : Nat), s = .slice a m c ∧ i = .int .i64 j ∧ j = k + n ∧ j ≤ B.e.length ∧ Hid (ChO X base (headL A B ++ cutL B E ++ entsL B k n) (.slice a m c) wr)) (fun _ i _ => B.e.length - (intOf i).toNat)
      case atStart => exact ⟨k, 0, _, _, _, rfl, rfl, rfl, hkB, by unfold Hid; rw [entsL, List.append_nil]; exact ⟨HO4.out, HBX4.out⟩⟩
      case round =>
        obtain ⟨j, n, au5, mu5, cu5, rfl, rfl, hjn, hjB, HQ⟩ := hrel
        obtain ⟨e1, e2, HN5, B5, z5⟩ := HC1.out wr HQ.out.2
        have HN6 := Hid.intro HN5
        have HB5 := Hid.intro B5
        have HJN := Hid.intro hjn
        have hlen := Hid.intro (hl4 n)
        clear B5 HN5
        have e25 := e2 5
        have e22 := e2 2
        simp only [List.getElem?_toArray] at e25 e22
        by_cases hlt : j < B.e.length
        · as_aux_lemma =>
            obtain ⟨b2, o2, rfl, hb2', cc2⟩ := HRB2.out (by intro h; rw [h] at hlt; simp at hlt)
            obtain ⟨q0, q1⟩ := cc2 j hlt
            have hge : B.e.getD j ⟨0, ⟨#[]⟩⟩ = B.e[j] := by simp [List.getD_eq_getElem?_getD, hlt]
            generalize B.e[j] = eb at q0 q1 hge
            have HGE := Hid.intro hge
            have HQ0 := Hid.intro q0
            have HQ1 := Hid.intro q1
            have i2 : (j : Int) < (B.e.length : Int) := by omega
            clear cc2 q0 q1 hge hjn hl4
            go_wp2_with fail
            have HLN : Hid ((headL A B ++ cutL B E ++ entsL B k n).length + [(⟨2, eb.t, IntKind.i64.wrap (IntKind.i64.wrap (B.si + 1) + (j : Int)), 0, eb.d⟩ : Rc)].length ≤ 2000000) := by unfold Hid; have h9 := hlen.out; have h8 := HJN.out; simp only [List.length_cons, List.length_nil]; omega
            have HIX : Hid (IntKind.i64.wrap (IntKind.i64.wrap (B.si + 1) + (j : Int)) = B.si + (j : Nat) + 1) := by unfold Hid; rw [wraps_i64 (B.si + 1) (by omega) (by omega), wraps_i64 _ (by omega) (by omega)]; omega
            have HSF : Hid (∀ y, Below base X y → ChF (w.heap.size + 1) b2 o2 B.e.length cb j B.si eb.t eb.d y) := fun y hy => by
              obtain ⟨_, f2, _, Bz, _⟩ := HC1.out y hy
              exact ⟨f2 5, f2 2, atCell Bz HQ0.out (by omega), atCell Bz HQ1.out (by omega)⟩
            have BD : Below base X wr.drew := HQ.out.2.drew
            refine wp_region_held_drew (S := ChF (w.heap.size + 1) b2 o2 B.e.length cb j B.si eb.t eb.d) (by kernel_rfl) (HSF.out _ BD) (fun hHeld => ?_)
            have HOD : Hid (OwnR wr.drew base (.slice au5 mu5 cu5) (headL A B ++ cutL B E ++ entsL B k n)) := HQ.out.1.kept (Below.refl _ _).drew
            have bWD : Below wr.heap.size wr wr.drew := (Below.refl _ _).drew
            have HBD := Hid.intro BD
            have zD : wr.heap.size ≤ wr.drew.heap.size := bWD.size
            clear BD
            generalize wr.drew = D at HOD bWD HBD zD hHeld ⊢
            refine take1 (i := 0) (d := some 121) (v := ?_) rfl rfl (by kernel_rfl) (by kernel_rfl) (by kernel_rfl) (fun _ _ _ h => h) (Or.inl ⟨by rfl, ?_⟩) (by assumption) ?_
            rotate_left 1
            · intro w hSw
              obtain ⟨r0, r1, r2, r3⟩ := hSw
              go_simp <;> with_reducible rfl
            simp only [Act.put, List.setIfInBounds_toArray]
            dsimp only [List.set_cons_succ, List.set_cons_zero]
            refine take1 (i := 1) (d := some 122) (v := ?_) rfl rfl (by kernel_rfl) (by kernel_rfl) (by kernel_rfl) (fun _ _ _ h => h) (Or.inl ⟨by rfl, ?_⟩) (by assumption) ?_
            rotate_left 1
            · intro w hSw
              obtain ⟨r0, r1, r2, r3⟩ := hSw
              go_simp <;> with_reducible rfl
            simp only [Act.put, List.setIfInBounds_toArray]
            dsimp only [List.set_cons_succ, List.set_cons_zero]
            refine take1 (i := 2) (d := some 123) (v := ?_) rfl rfl (by kernel_rfl) (by kernel_rfl) (by kernel_rfl) (fun _ _ _ h => h) (Or.inl ⟨by rfl, ?_⟩) (by assumption) ?_
            rotate_left 1
            · intro w hSw
              obtain ⟨r0, r1, r2, r3⟩ := hSw
              go_simp <;> with_reducible rfl
            simp only [Act.put, List.setIfInBounds_toArray]
            dsimp only [List.set_cons_succ, List.set_cons_zero]
            refine take1 (i := 3) (d := some 124) (v := ?_) rfl rfl (by kernel_rfl) (by kernel_rfl) (by kernel_rfl) (fun _ _ _ h => h) (Or.inl ⟨by rfl, ?_⟩) (by assumption) ?_
            rotate_left 1
            · intro w hSw
              obtain ⟨r0, r1, r2, r3⟩ := hSw
              go_simp <;> with_reducible rfl
            simp only [Act.put, List.setIfInBounds_toArray]
            dsimp only [List.set_cons_succ, List.set_cons_zero]
            refine take1 (i := 4) (d := some 125) (v := ?_) rfl rfl (by kernel_rfl) (by kernel_rfl) (by kernel_rfl) (fun _ _ _ h => h) (Or.inl ⟨by rfl, ?_⟩) (by assumption) ?_
            rotate_left 1
            · intro w hSw
              obtain ⟨r0, r1, r2, r3⟩ := hSw
              go_simp <;> with_reducible rfl
            simp only [Act.put, List.setIfInBounds_toArray]
            dsimp only [List.set_cons_succ, List.set_cons_zero]
            refine take1 (i := 5) (d := some 126) (v := ?_) rfl rfl (by kernel_rfl) (by kernel_rfl) (by kernel_rfl) (fun _ _ _ h => h) (Or.inl ⟨by rfl, ?_⟩) (by assumption) ?_
            rotate_left 1
            · intro w hSw
              obtain ⟨r0, r1, r2, r3⟩ := hSw
              go_simp <;> with_reducible rfl
            simp only [Act.put, List.setIfInBounds_toArray]
            dsimp only [List.set_cons_succ, List.set_cons_zero]
            refine take1 (i := 6) (d := some 127) (v := ?_) rfl rfl (by kernel_rfl) (by kernel_rfl) (by kernel_rfl) (fun _ _ _ h => h) (Or.inl ⟨by rfl, ?_⟩) (by assumption) ?_
            rotate_left 1
            · intro w hSw
              obtain ⟨r0, r1, r2, r3⟩ := hSw
              go_simp <;> with_reducible rfl
            simp only [Act.put, List.setIfInBounds_toArray]
            dsimp only [List.set_cons_succ, List.set_cons_zero]
            refine take1 (i := 7) (d := some 128) (v := ?_) rfl rfl (by kernel_rfl) (by kernel_rfl) (by kernel_rfl) (fun _ _ _ h => h) (Or.inl ⟨by rfl, ?_⟩) (by assumption) ?_
            rotate_left 1
            · intro w hSw
              obtain ⟨r0, r1, r2, r3⟩ := hSw
              go_simp <;> with_reducible rfl
            simp only [Act.put, List.setIfInBounds_toArray]
            dsimp only [List.set_cons_succ, List.set_cons_zero]
            refine take1 (i := 8) (d := some 129) (v := ?_) rfl rfl (by kernel_rfl) (by kernel_rfl) (by kernel_rfl) (fun _ _ _ h => h) (Or.inl ⟨by rfl, ?_⟩) (by assumption) ?_
            rotate_left 1
            · intro w hSw
              obtain ⟨r0, r1, r2, r3⟩ := hSw
              go_simp <;> with_reducible rfl
            simp only [Act.put, List.setIfInBounds_toArray]
            dsimp only [List.set_cons_succ, List.set_cons_zero]
            refine take1 (i := 9) (d := some 130) (v := ?_) rfl rfl (by kernel_rfl) (by kernel_rfl) (by kernel_rfl) (fun _ _ _ h => h) (Or.inl ⟨by rfl, ?_⟩) (by assumption) ?_
            rotate_left 1
            · intro w hSw
              obtain ⟨r0, r1, r2, r3⟩ := hSw
              go_simp <;> with_reducible rfl
            simp only [Act.put, List.setIfInBounds_toArray]
            dsimp only [List.set_cons_succ, List.set_cons_zero]
            refine take1 (i := 10) (d := some 131) (v := ?_) rfl rfl (by kernel_rfl) (by kernel_rfl) (by kernel_rfl) (fun _ _ _ h => h) (Or.inl ⟨by rfl, ?_⟩) (by assumption) ?_
            rotate_left 1
            · intro w hSw
              obtain ⟨r0, r1, r2, r3⟩ := hSw
              go_simp <;> with_reducible rfl
            simp only [Act.put, List.setIfInBounds_toArray]
            dsimp only [List.set_cons_succ, List.set_cons_zero]
            refine take1 (i := 11) (d := some 132) (v := ?_) rfl rfl (by kernel_rfl) (by kernel_rfl) (by kernel_rfl) (fun _ _ _ h => h) (Or.inl ⟨by rfl, ?_⟩) (by assumption) ?_
            rotate_left 1
            · intro w hSw
              obtain ⟨r0, r1, r2, r3⟩ := hSw
              go_simp <;> with_reducible rfl
            simp only [Act.put, List.setIfInBounds_toArray]
            dsimp only [List.set_cons_succ, List.set_cons_zero]
            refine take1 (i := 12) (d := some 133) (v := ?_) rfl rfl (by kernel_rfl) (by kernel_rfl) (by kernel_rfl) (fun _ _ _ h => h) (Or.inl ⟨by rfl, ?_⟩) (by assumption) ?_
            rotate_left 1
            · intro w hSw
              obtain ⟨r0, r1, r2, r3⟩ := hSw
              go_simp <;> with_reducible rfl
            simp only [Act.put, List.setIfInBounds_toArray]
            dsimp only [List.set_cons_succ, List.set_cons_zero]
            refine take1 (i := 13) (d := some 134) (v := ?_) rfl rfl (by kernel_rfl) (by kernel_rfl) (by kernel_rfl) (fun _ _ _ h => h) (Or.inl ⟨by rfl, ?_⟩) (by assumption) ?_
            rotate_left 1
            · intro w hSw
              obtain ⟨r0, r1, r2, r3⟩ := hSw
              go_simp <;> with_reducible rfl
            simp only [Act.put, List.setIfInBounds_toArray]
            dsimp only [List.set_cons_succ, List.set_cons_zero]
            refine take1 (i := 14) (d := some 135) (v := ?_) rfl rfl (by kernel_rfl) (by kernel_rfl) (by kernel_rfl) (fun _ _ _ h => h) (Or.inl ⟨by rfl, ?_⟩) (by assumption) ?_
            rotate_left 1
            · intro w hSw
              obtain ⟨r0, r1, r2, r3⟩ := hSw
              go_simp <;> with_reducible rfl
            simp only [Act.put, List.setIfInBounds_toArray]
            dsimp only [List.set_cons_succ, List.set_cons_zero]
            refine take1 (i := 15) (d := some 136) (v := ?_) rfl rfl (by kernel_rfl) (by kernel_rfl) (by kernel_rfl) (fun _ _ _ h => h) (Or.inl ⟨by rfl, ?_⟩) (by assumption) ?_
            rotate_left 1
            · intro w hSw
              obtain ⟨r0, r1, r2, r3⟩ := hSw
              go_simp <;> with_reducible rfl
            simp only [Act.put, List.setIfInBounds_toArray]
            dsimp only [List.set_cons_succ, List.set_cons_zero]
            refine take1 (i := 16) (d := some 137) (v := ?_) rfl rfl (by kernel_rfl) (by kernel_rfl) (by kernel_rfl) (fun _ _ _ h => h) (Or.inl ⟨by rfl, ?_⟩) (by assumption) ?_
            rotate_left 1
            · intro w hSw
              obtain ⟨r0, r1, r2, r3⟩ := hSw
              go_simp <;> with_reducible rfl
            simp only [Act.put, List.setIfInBounds_toArray]
            dsimp only [List.set_cons_succ, List.set_cons_zero]
            refine take1 (i := 17) (d := some 138) (v := ?_) rfl rfl (by kernel_rfl) (by kernel_rfl) (by kernel_rfl) (fun _ _ _ h => h) (Or.inl ⟨by rfl, ?_⟩) (by assumption) ?_
            rotate_left 1
            · intro w hSw
              obtain ⟨r0, r1, r2, r3⟩ := hSw
              go_simp <;> with_reducible rfl
            simp only [Act.put, List.setIfInBounds_toArray]
            dsimp only [List.set_cons_succ, List.set_cons_zero]
            refine take1 (i := 18) (d := some 139) (v := ?_) rfl rfl (by kernel_rfl) (by kernel_rfl) (by kernel_rfl) (fun _ _ _ h => h) (Or.inl ⟨by rfl, ?_⟩) (by assumption) ?_
            rotate_left 1
            · intro w hSw
              obtain ⟨r0, r1, r2, r3⟩ := hSw
              go_simp <;> with_reducible rfl
            simp only [Act.put, List.setIfInBounds_toArray]
            dsimp only [List.set_cons_succ, List.set_cons_zero]
            refine take1 (i := 19) (d := some 140) (v := ?_) rfl rfl (by kernel_rfl) (by kernel_rfl) (by kernel_rfl) (fun _ _ _ h => h) (Or.inl ⟨by rfl, ?_⟩) (by assumption) ?_
            rotate_left 1
            · intro w hSw
              obtain ⟨r0, r1, r2, r3⟩ := hSw
              go_simp <;> with_reducible rfl
            simp only [Act.put, List.setIfInBounds_toArray]
            dsimp only [List.set_cons_succ, List.set_cons_zero]
            refine wpAnyH_ready (rs := [20]) (by kernel_rfl) (by simp) ?_
            refine AllReadyH.cons rfl (fun KK hKK => ?_) AllReadyH.nil
            go_simp
            have bX := (Below.refl D.heap.size D).alloc (Nat.le_refl _) (.cells #[.int .i64 2, .int .i64 eb.t, .int .i64 (IntKind.i64.wrap (IntKind.i64.wrap (B.si + 1) + (j : Int))), .int .i64 0, .string eb.d] 43)
            have cX := rc_news (w := D) ⟨2, eb.t, (IntKind.i64.wrap (IntKind.i64.wrap (B.si + 1) + (j : Int))), 0, eb.d⟩ 43
            simp only at cX
            generalize hbk : D.heap.size = bk at cX ⊢
            generalize D.alloc (.cells #[.int .i64 2, .int .i64 eb.t, .int .i64 (IntKind.i64.wrap (IntKind.i64.wrap (B.si + 1) + (j : Int))), .int .i64 0, .string eb.d] 43) = Z at bX cX ⊢
            have zX := bX.size
            have HOZ := Hid.intro (HOD.out.kept bX)
            have HBZ := Hid.intro (bWD.trans (bX.mono zD))
            have HBXZ := Hid.intro (HBD.out.trans (bX.mono (by omega)))
            clear bX bWD
            refine hKK.out _ _ (HSF.out _ HBXZ.out) (fun hHeld2 => ?_)
            clear hKK KK hHeld
            have hHeld := hHeld2
            clear hHeld2
            refine wpAnyH_ready (rs := [21]) (by kernel_rfl) (by simp) ?_
            refine AllReadyH.cons rfl (fun KK hKK => ?_) AllReadyH.nil
            refine step_R rfl _ _ rfl base (.slice au5 mu5 cu5) (headL A B ++ cutL B E ++ entsL B k n) [⟨2, eb.t, (IntKind.i64.wrap (IntKind.i64.wrap (B.si + 1) + (j : Int))), 0, eb.d⟩] rfl HOZ.out ⟨bk, 0, none⟩ 1 1 rfl rfl cX HLN.out (by omega) (by simp) ?_
            intro g cap' w5 o5 hO5 hloc hg
            have HQ5 := ents_next HQ.out HJN.out HGE.out HIX.out z5 HBZ.out hO5 o5
            clear o5 hO5 hloc hg cX
            go_simp
            refine hKK.out _ _ (HSF.out _ HQ5.out.2) (fun hHeld2 => ?_)
            clear hKK KK hHeld
            have hHeld := hHeld2
            clear hHeld2
            refine wpAnyH_ready (rs := [22]) (by kernel_rfl) (by simp) ?_
            refine AllReadyH.cons rfl (fun KK hKK => ?_) AllReadyH.nil
            go_simp
            refine hKK.out _ _ (HSF.out _ HQ5.out.2) (fun hHeld2 => ?_)
            clear hKK KK hHeld
            have hHeld := hHeld2
            clear hHeld2
            refine wpAnyH_done (by kernel_rfl) ?_ _
            go_wp2_with fail
            go_roundw
            case rel => exact ⟨j + 1, n + 1, _, _, _, rfl, by go_num, by have := HJN.out; omega, by omega, by have e : (headL A B ++ cutL B E ++ entsL B k n).length = (headL A B).length + ((cutL B E).length + (entsL B k n).length) := (by simp); rw [e] at HQ5; exact HQ5⟩
            case measure => simp [intOf]; omega
        · have i2 : ¬ (j : Int) < (B.e.length : Int) := by omega
          have hch : headL A B ++ cutL B E ++ entsL B k n = chL A B := by
            have hn : n = B.e.length - k := by omega
            rw [chL, HE.out, tailL, HK.out, hn, List.append_assoc]
          have HCQ : Hid (ChO X base (chL A B) (.slice au5 mu5 cu5) wr) := by unfold Hid; rw [← hch]; exact HQ.out
          have hmu : mu5 = (chL A B).length := by
            obtain ⟨_, _, h⟩ := HCQ.out.1.slice
            cases h
            rfl
          have hm80 : mu5 ≤ 63 := by rw [hmu, ← hch]; have := hlen.out; omega
          have HMU := Hid.intro hmu
          have HHA := Hid.intro (HA.out.kept (HB5.out.mono hN))
          have i3 : ¬ (80 : Int) < (mu5 : Int) := by omega
          have i4 : ¬ (80 : Int) < (mu5 : Int) := by omega
          clear hch hmu HQ HJN hlen
          go_wp2_with fail
          refine (l3Copy_any A _ N wr (by have := HB5.out.size; omega) HHA.out (by omega)).mono ?_
          rintro e w6 ⟨v6, rfl, o6, b6⟩
          obtain ⟨a6, c6, rfl⟩ := o6.slice
          go_wp2_with fail
          as_aux_lemma =>
            obtain ⟨wo, rfl⟩ : ∃ wo : World, wo = wr := ⟨_, rfl⟩
            obtain ⟨X0, hX, bX, zX, cX, fX⟩ := boxed w6 #[.int .i64 A.t, .int .i64 A.v, .int .i64 A.si, .int .i64 A.st, .string A.sd, .slice a6 A.e.length c6] 28
            simp only [hX]
            have HKX : Hid (FV9 X0 w6.heap.size wo.heap.size A (.slice a6 A.e.length c6)) := ⟨by omega, cX, fX, o6.kept bX, fun k hk e => by have := (o6.lt k hk).2; omega⟩
            have hzX : wo.heap.size ≤ w6.heap.size := b6.size
            have HBX : Hid (Below wo.heap.size wo X0) := b6.trans (bX.mono hzX)
            have hkX : w6.heap.size < X0.heap.size := by omega
            have HRW := Hid.intro (RowR.at9 HCQ.out.1.rowAll)
            have HEND : Hid (∀ y, Below wo.heap.size X0 y → OwnR y w.heap.size (.slice (some ⟨w.heap.size + 1 + 1, 0, none⟩) 0 0) [] ∧ Below w.heap.size w y ∧ OwnR y base (.slice au5 mu5 cu5) (chL A B)) := fun y hy => by
              have h1 := HBX.out.trans hy
              have h2 := HC1.out y (HCQ.out.2.trans (h1.mono (HC1.out wo HCQ.out.2).2.2.2.2))
              exact ⟨h2.2.2.1, h2.2.2.2.1, HCQ.out.1.kept h1⟩
            have HLM : Hid ((chL A B).length ≤ mu5) := by have := HMU.out; unfold Hid; omega
            have HWB : Hid (w.heap.size ≤ base) := by unfold Hid; omega
            have HKK : Hid (keptB A = true ∧ keptB B = true) := ⟨hka, hkb⟩
            clear hX bX zX cX fX b6 o6
            go_loopw [12] (fun i wr => ∃ (j : Nat) (K' : Kp) (v' : Value), i = .int .i64 j ∧ j ≤ mu5 ∧ Hid (foldK A ((chL A B).take j) = some K') ∧ Hid (FV9 wr w6.heap.size wo.heap.size K' v') ∧ Below wo.heap.size X0 wr) (fun i _ => mu5 - (intOf i).toNat)
            case atStart => exact ⟨0, A, _, rfl, Nat.zero_le _, by unfold Hid; simp [foldK], HKX, Below.refl _ _⟩
            case round =>
              obtain ⟨j, K', v', rfl, hj, HF, HK, hbel⟩ := hrel
              have hs2 := hbel.size
              by_cases hlt : j < mu5
              · have hlt2 : j < (chL A B).length := by have := HMU.out; omega
                obtain ⟨b, off, hau, hbN, hcc⟩ := HRW.out (by intro h; rw [h] at hlt2; simp at hlt2)
                obtain ⟨p0, p1, p2, p3, p4⟩ := hcc j hlt2
                have hat := @foldK_at A K' (chL A B) j hlt2 HF.out
                have hst := @foldK_stop A K' (chL A B) j hlt2 HF.out
                generalize (chL A B)[j] = r at p0 p1 p2 p3 p4 hat hst
                have HAT := Hid.intro hat
                have HST := Hid.intro hst
                have HBW : Hid (Below wo.heap.size wo wr) := HBX.out.trans hbel
                have HV : Hid (w6.heap.size < wr.heap.size) := HK.out.hi
                have HVL : Hid (∀ k, v'.ownBlock = some k → wo.heap.size ≤ k ∧ k < wr.heap.size) := HK.out.own.lt
                have HNE := Hid.intro HK.out.ne
                have HSM : Hid (Sm K') := HSA.out.fold HF.out
                have HCF : Hid (∀ w', Only (fun k => some k = v'.ownBlock) wr w' → (∀ o, w'.cell? ⟨w6.heap.size, o, none⟩ = #[.int .i64 K'.t, .int .i64 K'.v, .int .i64 K'.si, .int .i64 K'.st, .string K'.sd, v'][o]?) ∧ (∀ o, w'.frozen? ⟨w6.heap.size, o, none⟩ = false) ∧ w6.heap.size < w'.heap.size) := fun w' ho =>
                  ⟨fun o => (ho.cell HV.out (fun h => HNE.out _ h.symm rfl)).trans (HK.out.cell o), fun o => (ho.frozen HV.out (fun h => HNE.out _ h.symm rfl)).trans (HK.out.fro o), Nat.lt_of_lt_of_le HV.out ho.size⟩
                have HSF : Hid (∀ w', Only (fun k => some k = v'.ownBlock) wr w' → SFo9 K' v' w6.heap.size b (off + j * 5) r w') := fun w' ho => by
                  obtain ⟨d1, _⟩ := HCF.out w' ho
                  have hx : ∀ o x, wo.cell? ⟨b, o, none⟩ = some x → w'.cell? ⟨b, o, none⟩ = some x := fun o x hx => (ho.cell (by have := HV.out; omega) (fun h => by have := (HVL.out _ h.symm).1; omega)).trans (atCell HBW.out hx (by omega))
                  exact ⟨by rw [d1]; rfl, by rw [d1]; rfl, by rw [d1]; rfl, by rw [d1]; rfl, by rw [d1]; rfl, by rw [d1]; rfl, hx _ _ p0, hx _ _ p1, hx _ _ p2, hx _ _ p3, hx _ _ p4⟩
                have hjl : (j : Int) < (mu5 : Int) := by omega
                have i1 : (0 : Int) ≤ (j : Int) ∧ (j : Int) < (mu5 : Int) := by omega
                clear hcc p0 p1 p2 p3 p4 hat hst
                subst hau
                go_wp2_with fail
                refine wp_region_held_drew (S := SFo9 K' v' w6.heap.size b (off + j * 5) r) (by kernel_rfl) (HSF.out _ (Only.refl _ _).drew) (fun hHeld => ?_)
                have BWD : Only (fun k => some k = v'.ownBlock) wr wr.drew := (Only.refl _ _).drew
                have HKD : Hid (OwnE wr.drew wo.heap.size v' K'.e) := HK.out.own.kept (Below.refl _ _).drew
                generalize wr.drew = D at BWD HKD hHeld ⊢
                refine take1 (i := 0) (d := some 156) (v := ?_) rfl rfl (by kernel_rfl) (by kernel_rfl) (by kernel_rfl) (fun _ _ _ h => h) (Or.inl ⟨by rfl, ?_⟩) (by assumption) ?_
                rotate_left 1
                · intro w hSw
                  obtain ⟨q0, q1, q2, q3, q4, q5, q6, q7, q8, q9, q10⟩ := hSw
                  go_simp <;> with_reducible rfl
                simp only [Act.put, List.setIfInBounds_toArray]
                dsimp only [List.set_cons_succ, List.set_cons_zero]
                refine take1 (i := 1) (d := some 157) (v := ?_) rfl rfl (by kernel_rfl) (by kernel_rfl) (by kernel_rfl) (fun _ _ _ h => h) (Or.inl ⟨by rfl, ?_⟩) (by assumption) ?_
                rotate_left 1
                · intro w hSw
                  obtain ⟨q0, q1, q2, q3, q4, q5, q6, q7, q8, q9, q10⟩ := hSw
                  go_simp <;> with_reducible rfl
                simp only [Act.put, List.setIfInBounds_toArray]
                dsimp only [List.set_cons_succ, List.set_cons_zero]
                refine take1 (i := 2) (d := some 158) (v := ?_) rfl rfl (by kernel_rfl) (by kernel_rfl) (by kernel_rfl) (fun _ _ _ h => h) (Or.inl ⟨by rfl, ?_⟩) (by assumption) ?_
                rotate_left 1
                · intro w hSw
                  obtain ⟨q0, q1, q2, q3, q4, q5, q6, q7, q8, q9, q10⟩ := hSw
                  go_simp <;> with_reducible rfl
                simp only [Act.put, List.setIfInBounds_toArray]
                dsimp only [List.set_cons_succ, List.set_cons_zero]
                refine take1 (i := 3) (d := some 159) (v := ?_) rfl rfl (by kernel_rfl) (by kernel_rfl) (by kernel_rfl) (fun _ _ _ h => h) (Or.inl ⟨by rfl, ?_⟩) (by assumption) ?_
                rotate_left 1
                · intro w hSw
                  obtain ⟨q0, q1, q2, q3, q4, q5, q6, q7, q8, q9, q10⟩ := hSw
                  go_simp <;> with_reducible rfl
                simp only [Act.put, List.setIfInBounds_toArray]
                dsimp only [List.set_cons_succ, List.set_cons_zero]
                refine take1 (i := 4) (d := some 160) (v := ?_) rfl rfl (by kernel_rfl) (by kernel_rfl) (by kernel_rfl) (fun _ _ _ h => h) (Or.inl ⟨by rfl, ?_⟩) (by assumption) ?_
                rotate_left 1
                · intro w hSw
                  obtain ⟨q0, q1, q2, q3, q4, q5, q6, q7, q8, q9, q10⟩ := hSw
                  go_simp <;> with_reducible rfl
                simp only [Act.put, List.setIfInBounds_toArray]
                dsimp only [List.set_cons_succ, List.set_cons_zero]
                refine wpAnyH_ready (rs := [5, 9]) (by kernel_rfl) (by simp) ?_
                refine AllReadyH.cons rfl (fun KK hKK => ?_) (AllReadyH.cons rfl (fun KK hKK => ?_) AllReadyH.nil)
                · skip
                  go_simp
                  refine (l3Step_any K' v' wo.heap.size r D (by have := BWD.size; omega) (HKD.out) HSM.out).mono ?_
                  rintro e w3 ⟨v3, rfl, o3, l3, q3⟩
                  obtain ⟨a3, cap3, rfl⟩ := o3.slice
                  have BWw3 : Only (fun k => some k = v'.ownBlock) wr w3 := BWD.trans q3
                  have HO3 := Hid.intro o3
                  have HLT : Hid (∀ k, (Value.slice a3 (nextK K' r).e.length cap3).ownBlock = some k → ¬ k = w6.heap.size ∧ ¬ k = w3.heap.size) := fun k hk => by
                    have h3 := o3.lt k hk
                    have h4 := l3 k hk
                    have h5 := HV.out
                    have h6 := BWD.size
                    have h9 := BWD.size
                    rcases h4 with h4 | h4
                    · have h7 := HNE.out k h4
                      have h8 := (HVL.out k h4).2
                      refine ⟨h7, ?_⟩
                      omega
                    · refine ⟨by omega, ?_⟩
                      omega
                  clear o3 l3 q3
                  go_simp
                  refine hKK.out _ _ (HSF.out _ BWw3) (fun hHeld2 => ?_)
                  clear hKK KK hHeld
                  have hHeld := hHeld2
                  clear hHeld2
                  refine take1 (i := 6) (d := some 155) (v := ?_) rfl rfl (by kernel_rfl) (by kernel_rfl) (by kernel_rfl) (fun _ _ _ h => h) (Or.inl ⟨by rfl, ?_⟩) (by assumption) ?_
                  rotate_left 1
                  · intro w hSw
                    obtain ⟨q0, q1, q2, q3, q4, q5, q6, q7, q8, q9, q10⟩ := hSw
                    go_simp <;> with_reducible rfl
                  simp only [Act.put, List.setIfInBounds_toArray]
                  dsimp only [List.set_cons_succ, List.set_cons_zero]
                  refine take1 (i := 7) (d := some 162) (v := ?_) rfl rfl (by kernel_rfl) (by kernel_rfl) (by kernel_rfl) (fun _ _ _ h => h) (Or.inl ⟨by rfl, ?_⟩) (by assumption) ?_
                  rotate_left 1
                  · intro w hSw
                    obtain ⟨q0, q1, q2, q3, q4, q5, q6, q7, q8, q9, q10⟩ := hSw
                    go_simp <;> with_reducible rfl
                  simp only [Act.put, List.setIfInBounds_toArray]
                  dsimp only [List.set_cons_succ, List.set_cons_zero]
                  refine take1 (i := 8) (d := some 163) (v := ?_) rfl rfl (by kernel_rfl) (by kernel_rfl) (by kernel_rfl) (fun _ _ _ h => h) (Or.inl ⟨by rfl, ?_⟩) (by assumption) ?_
                  rotate_left 1
                  · intro w hSw
                    obtain ⟨q0, q1, q2, q3, q4, q5, q6, q7, q8, q9, q10⟩ := hSw
                    go_simp <;> with_reducible rfl
                  simp only [Act.put, List.setIfInBounds_toArray]
                  dsimp only [List.set_cons_succ, List.set_cons_zero]
                  refine wpAnyH_ready (rs := [9]) (by kernel_rfl) (by simp) ?_
                  refine AllReadyH.cons rfl (fun KK hKK => ?_) AllReadyH.nil
                  go_simp
                  have bX := (Below.refl w3.heap.size w3).alloc (Nat.le_refl _) (.cells #[.int .i64 0, .int .i64 0, .int .i64 0, .int .i64 0, .string ⟨#[]⟩, .slice none 0 0] 28)
                  have zk6 : w3.heap.size < (w3.alloc (.cells #[.int .i64 0, .int .i64 0, .int .i64 0, .int .i64 0, .string ⟨#[]⟩, .slice none 0 0] 28)).heap.size := by simp
                  have k6 : ∀ o, (w3.alloc (.cells #[.int .i64 0, .int .i64 0, .int .i64 0, .int .i64 0, .string ⟨#[]⟩, .slice none 0 0] 28)).cell? ⟨w3.heap.size, o, none⟩ = #[.int .i64 0, .int .i64 0, .int .i64 0, .int .i64 0, .string ⟨#[]⟩, .slice none 0 0][o]? := fun o => World.cell?_alloc_at _ _ _ _ rfl
                  have g6 : ∀ o, (w3.alloc (.cells #[.int .i64 0, .int .i64 0, .int .i64 0, .int .i64 0, .string ⟨#[]⟩, .slice none 0 0] 28)).frozen? ⟨w3.heap.size, o, none⟩ = false := fun o => World.frozen?_alloc_at _ _ _ _ rfl
                  generalize w3.alloc (.cells #[.int .i64 0, .int .i64 0, .int .i64 0, .int .i64 0, .string ⟨#[]⟩, .slice none 0 0] 28) = X9 at bX zk6 k6 g6 ⊢
                  have BWX9 : Only (fun k => some k = v'.ownBlock) wr X9 := BWw3.trans (Below.any bX)
                  refine hKK.out _ _ (HSF.out _ BWX9) (fun hHeld2 => ?_)
                  clear hKK KK hHeld
                  have hHeld := hHeld2
                  clear hHeld2
                  replace HO3 := Hid.intro (HO3.out.kept bX)
                  refine wpAnyH_ready (rs := [10]) (by kernel_rfl) (by simp) ?_
                  refine AllReadyH.cons rfl (fun KK hKK => ?_) AllReadyH.nil
                  go_simp
                  obtain ⟨Y, hY, cY, oY, zY, _⟩ := put6 (x0 := .int .i64 (nextK K' r).t) (x1 := .int .i64 (nextK K' r).v) (x2 := .int .i64 (nextK K' r).si) (x3 := .int .i64 (nextK K' r).st) (x4 := .string (nextK K' r).sd) (x5 := .slice a3 (nextK K' r).e.length cap3) k6
                  simp only [hY]
                  have BWY : Only (fun k => some k = v'.ownBlock) wr Y := BWX9.then oY (fun k hk h => by have := BWw3.size; omega)
                  refine hKK.out _ _ (HSF.out _ BWY) (fun hHeld2 => ?_)
                  clear hKK KK hHeld
                  have hHeld := hHeld2
                  clear hHeld2
                  refine take1 (i := 11) (d := some 14) (v := ?_) rfl rfl (by kernel_rfl) (by kernel_rfl) (by kernel_rfl) (fun _ _ _ h => h) (Or.inl ⟨by rfl, ?_⟩) (by assumption) ?_
                  rotate_left 1
                  · intro w hSw
                    obtain ⟨q0, q1, q2, q3, q4, q5, q6, q7, q8, q9, q10⟩ := hSw
                    go_simp <;> with_reducible rfl
                  simp only [Act.put, List.setIfInBounds_toArray]
                  dsimp only [List.set_cons_succ, List.set_cons_zero]
                  refine wpAnyH_done (by kernel_rfl) ?_ _
                  have HOY := Hid.intro (HO3.out.only oY (fun k hk h => (HLT.out k hk).2 h))
                  have HNY : Hid (∀ k, (Value.slice a3 (nextK K' r).e.length cap3).ownBlock = some k → ¬ k = w6.heap.size) := fun k hk => (HLT.out k hk).1
                  have hxk : ¬ w3.heap.size = w6.heap.size := by have := BWw3.size; have := HV.out; omega
                  have zx : w3.heap.size < Y.heap.size := by omega
                  obtain ⟨dk, fk, zz⟩ := HCF.out Y BWY
                  have HBY : Hid (Below wo.heap.size X0 Y) := hbel.trans (BWY.below (by omega) (fun k hk h => by have := (HVL.out k h.symm).1; omega))
                  clear HCF HSF hHeld k6 g6 zk6 oY hY zY HO3 HLT
                  cases hgo : goB K' r with
                  | true =>
                    have HNX : Hid (nextK K' r = stepK K' r) := nextK_yes hgo
                    go_wp2
                    obtain ⟨Z, hZ, cZ, oZ, zZ, fZ⟩ := put6 (x0 := .int .i64 (nextK K' r).t) (x1 := .int .i64 (nextK K' r).v) (x2 := .int .i64 (nextK K' r).si) (x3 := .int .i64 (nextK K' r).st) (x4 := .string (nextK K' r).sd) (x5 := .slice a3 (nextK K' r).e.length cap3) dk
                    simp only [hZ]
                    have HKZ : Hid (FV9 Z w6.heap.size wo.heap.size (stepK K' r) (.slice a3 (nextK K' r).e.length cap3)) := by
                      have h1 := HOY.out.only oZ (fun k hk h => HNY.out k hk h)
                      have h2 := HNY.out
                      rw [HNX.out] at cZ h1 h2 ⊢
                      exact ⟨by omega, cZ, fZ fk, h1, h2⟩
                    go_roundw
                    case rel => exact ⟨j + 1, stepK K' r, _, by go_num, by omega, HAT.out hgo, HKZ, HBY.out.trans (oZ.below (by have := HBY.out.size; omega) (fun k hk h => by omega))⟩
                    case measure => simp [intOf]; omega
                  | false =>
                    have HN := Hid.intro (HST.out hgo)
                    have hchf : chB A B = false := by simp [chB, HN.out]
                    have HFE := Hid.intro (HEND.out Y HBY.out)
                    go_wp2
                    go_ret2
                    exact ⟨.slice (some ⟨w.heap.size + 1 + 1, 0, none⟩) 0 0, by rw [hchf]; rfl, by rw [chR_no hchf]; exact HFE.out.1, HFE.out.2.1⟩
                · skip
                  go_simp
                  have bX := (Below.refl D.heap.size D).alloc (Nat.le_refl _) (.cells #[.int .i64 0, .int .i64 0, .int .i64 0, .int .i64 0, .string ⟨#[]⟩, .slice none 0 0] 28)
                  have zk6 : D.heap.size < (D.alloc (.cells #[.int .i64 0, .int .i64 0, .int .i64 0, .int .i64 0, .string ⟨#[]⟩, .slice none 0 0] 28)).heap.size := by simp
                  have k6 : ∀ o, (D.alloc (.cells #[.int .i64 0, .int .i64 0, .int .i64 0, .int .i64 0, .string ⟨#[]⟩, .slice none 0 0] 28)).cell? ⟨D.heap.size, o, none⟩ = #[.int .i64 0, .int .i64 0, .int .i64 0, .int .i64 0, .string ⟨#[]⟩, .slice none 0 0][o]? := fun o => World.cell?_alloc_at _ _ _ _ rfl
                  have g6 : ∀ o, (D.alloc (.cells #[.int .i64 0, .int .i64 0, .int .i64 0, .int .i64 0, .string ⟨#[]⟩, .slice none 0 0] 28)).frozen? ⟨D.heap.size, o, none⟩ = false := fun o => World.frozen?_alloc_at _ _ _ _ rfl
                  generalize D.alloc (.cells #[.int .i64 0, .int .i64 0, .int .i64 0, .int .i64 0, .string ⟨#[]⟩, .slice none 0 0] 28) = X9 at bX zk6 k6 g6 ⊢
                  have BWX9 : Only (fun k => some k = v'.ownBlock) wr X9 := BWD.trans (Below.any bX)
                  refine hKK.out _ _ (HSF.out _ BWX9) (fun hHeld2 => ?_)
                  clear hKK KK hHeld
                  have hHeld := hHeld2
                  clear hHeld2
                  have HKX9 := Hid.intro (HKD.out.kept bX)
                  refine wpAnyH_ready (rs := [5]) (by kernel_rfl) (by simp) ?_
                  refine AllReadyH.cons rfl (fun KK hKK => ?_) AllReadyH.nil
                  go_simp
                  refine (l3Step_any K' v' wo.heap.size r X9 (by have := BWX9.size; omega) (HKX9.out) HSM.out).mono ?_
                  rintro e w3 ⟨v3, rfl, o3, l3, q3⟩
                  obtain ⟨a3, cap3, rfl⟩ := o3.slice
                  have BWw3 : Only (fun k => some k = v'.ownBlock) wr w3 := BWX9.trans q3
                  have HO3 := Hid.intro o3
                  have HLT : Hid (∀ k, (Value.slice a3 (nextK K' r).e.length cap3).ownBlock = some k → ¬ k = w6.heap.size ∧ ¬ k = D.heap.size) := fun k hk => by
                    have h3 := o3.lt k hk
                    have h4 := l3 k hk
                    have h5 := HV.out
                    have h6 := BWX9.size
                    have h9 := BWD.size
                    rcases h4 with h4 | h4
                    · have h7 := HNE.out k h4
                      have h8 := (HVL.out k h4).2
                      refine ⟨h7, ?_⟩
                      omega
                    · refine ⟨by omega, ?_⟩
                      omega
                  replace k6 : ∀ o, w3.cell? ⟨D.heap.size, o, none⟩ = #[.int .i64 0, .int .i64 0, .int .i64 0, .int .i64 0, .string ⟨#[]⟩, .slice none 0 0][o]? := fun o => (q3.cell zk6 (fun h => by have := (HVL.out _ h.symm).2; have := BWD.size; omega)).trans (k6 o)
                  replace g6 : ∀ o, w3.frozen? ⟨D.heap.size, o, none⟩ = false := fun o => (q3.frozen zk6 (fun h => by have := (HVL.out _ h.symm).2; have := BWD.size; omega)).trans (g6 o)
                  replace zk6 : D.heap.size < w3.heap.size := Nat.lt_of_lt_of_le zk6 q3.size
                  clear o3 l3 q3
                  go_simp
                  refine hKK.out _ _ (HSF.out _ BWw3) (fun hHeld2 => ?_)
                  clear hKK KK hHeld
                  have hHeld := hHeld2
                  clear hHeld2
                  refine take1 (i := 6) (d := some 155) (v := ?_) rfl rfl (by kernel_rfl) (by kernel_rfl) (by kernel_rfl) (fun _ _ _ h => h) (Or.inl ⟨by rfl, ?_⟩) (by assumption) ?_
                  rotate_left 1
                  · intro w hSw
                    obtain ⟨q0, q1, q2, q3, q4, q5, q6, q7, q8, q9, q10⟩ := hSw
                    go_simp <;> with_reducible rfl
                  simp only [Act.put, List.setIfInBounds_toArray]
                  dsimp only [List.set_cons_succ, List.set_cons_zero]
                  refine take1 (i := 7) (d := some 162) (v := ?_) rfl rfl (by kernel_rfl) (by kernel_rfl) (by kernel_rfl) (fun _ _ _ h => h) (Or.inl ⟨by rfl, ?_⟩) (by assumption) ?_
                  rotate_left 1
                  · intro w hSw
                    obtain ⟨q0, q1, q2, q3, q4, q5, q6, q7, q8, q9, q10⟩ := hSw
                    go_simp <;> with_reducible rfl
                  simp only [Act.put, List.setIfInBounds_toArray]
                  dsimp only [List.set_cons_succ, List.set_cons_zero]
                  refine take1 (i := 8) (d := some 163) (v := ?_) rfl rfl (by kernel_rfl) (by kernel_rfl) (by kernel_rfl) (fun _ _ _ h => h) (Or.inl ⟨by rfl, ?_⟩) (by assumption) ?_
                  rotate_left 1
                  · intro w hSw
                    obtain ⟨q0, q1, q2, q3, q4, q5, q6, q7, q8, q9, q10⟩ := hSw
                    go_simp <;> with_reducible rfl
                  simp only [Act.put, List.setIfInBounds_toArray]
                  dsimp only [List.set_cons_succ, List.set_cons_zero]
                  refine wpAnyH_ready (rs := [10]) (by kernel_rfl) (by simp) ?_
                  refine AllReadyH.cons rfl (fun KK hKK => ?_) AllReadyH.nil
                  go_simp
                  obtain ⟨Y, hY, cY, oY, zY, _⟩ := put6 (x0 := .int .i64 (nextK K' r).t) (x1 := .int .i64 (nextK K' r).v) (x2 := .int .i64 (nextK K' r).si) (x3 := .int .i64 (nextK K' r).st) (x4 := .string (nextK K' r).sd) (x5 := .slice a3 (nextK K' r).e.length cap3) k6
                  simp only [hY]
                  have BWY : Only (fun k => some k = v'.ownBlock) wr Y := BWw3.then oY (fun k hk h => by have := BWD.size; omega)
                  refine hKK.out _ _ (HSF.out _ BWY) (fun hHeld2 => ?_)
                  clear hKK KK hHeld
                  have hHeld := hHeld2
                  clear hHeld2
                  refine take1 (i := 11) (d := some 14) (v := ?_) rfl rfl (by kernel_rfl) (by kernel_rfl) (by kernel_rfl) (fun _ _ _ h => h) (Or.inl ⟨by rfl, ?_⟩) (by assumption) ?_
                  rotate_left 1
                  · intro w hSw
                    obtain ⟨q0, q1, q2, q3, q4, q5, q6, q7, q8, q9, q10⟩ := hSw
                    go_simp <;> with_reducible rfl
                  simp only [Act.put, List.setIfInBounds_toArray]
                  dsimp only [List.set_cons_succ, List.set_cons_zero]
                  refine wpAnyH_done (by kernel_rfl) ?_ _
                  have HOY := Hid.intro (HO3.out.only oY (fun k hk h => (HLT.out k hk).2 h))
                  have HNY : Hid (∀ k, (Value.slice a3 (nextK K' r).e.length cap3).ownBlock = some k → ¬ k = w6.heap.size) := fun k hk => (HLT.out k hk).1
                  have hxk : ¬ D.heap.size = w6.heap.size := by have := BWD.size; have := HV.out; omega
                  have zx : D.heap.size < Y.heap.size := by omega
                  obtain ⟨dk, fk, zz⟩ := HCF.out Y BWY
                  have HBY : Hid (Below wo.heap.size X0 Y) := hbel.trans (BWY.below (by omega) (fun k hk h => by have := (HVL.out k h.symm).1; omega))
                  clear HCF HSF hHeld k6 g6 zk6 oY hY zY HO3 HLT
                  cases hgo : goB K' r with
                  | true =>
                    have HNX : Hid (nextK K' r = stepK K' r) := nextK_yes hgo
                    go_wp2
                    obtain ⟨Z, hZ, cZ, oZ, zZ, fZ⟩ := put6 (x0 := .int .i64 (nextK K' r).t) (x1 := .int .i64 (nextK K' r).v) (x2 := .int .i64 (nextK K' r).si) (x3 := .int .i64 (nextK K' r).st) (x4 := .string (nextK K' r).sd) (x5 := .slice a3 (nextK K' r).e.length cap3) dk
                    simp only [hZ]
                    have HKZ : Hid (FV9 Z w6.heap.size wo.heap.size (stepK K' r) (.slice a3 (nextK K' r).e.length cap3)) := by
                      have h1 := HOY.out.only oZ (fun k hk h => HNY.out k hk h)
                      have h2 := HNY.out
                      rw [HNX.out] at cZ h1 h2 ⊢
                      exact ⟨by omega, cZ, fZ fk, h1, h2⟩
                    go_roundw
                    case rel => exact ⟨j + 1, stepK K' r, _, by go_num, by omega, HAT.out hgo, HKZ, HBY.out.trans (oZ.below (by have := HBY.out.size; omega) (fun k hk h => by omega))⟩
                    case measure => simp [intOf]; omega
                  | false =>
                    have HN := Hid.intro (HST.out hgo)
                    have hchf : chB A B = false := by simp [chB, HN.out]
                    have HFE := Hid.intro (HEND.out Y HBY.out)
                    go_wp2
                    go_ret2
                    exact ⟨.slice (some ⟨w.heap.size + 1 + 1, 0, none⟩) 0 0, by rw [hchf]; rfl, by rw [chR_no hchf]; exact HFE.out.1, HFE.out.2.1⟩
              · obtain rfl : j = mu5 := by omega
                have hch1 : chB A B = true := by
                  have h1 := HF.out
                  rw [List.take_of_length_le HLM.out] at h1
                  simp [chB, HKK.out.1, HKK.out.2, h1]
                have HCH := Hid.intro hch1
                have HFE := Hid.intro (HEND.out wr hbel)
                have hn : ¬ ((j : Nat) : Int) < ((j : Nat) : Int) := by omega
                clear hch1
                go_wp2
                go_ret2
                exact ⟨.slice au5 j cu5, by rw [HCH.out]; rfl, by rw [chR, HCH.out, if_pos rfl]; exact HFE.out.2.2.lower HWB.out, HFE.out.2.1⟩
end Go.Proofs.Ytkilepoimocoeaa
