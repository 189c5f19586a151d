/- ChartDocParse -/
import Derived.Test.YthcpglnmhimepaaGreatDoorS07
import Derived.Test.YthcpglnmhimepaaGreatDoorS21
namespace Go.Proofs.YthcpglnmhimepaaGreatDoor
open Go.RowKit
def docC (x l:ByteArray) (c k:Nat):Acct:=⟨x,(c:Int),decide (k=1),decide (k=2),if 2 < k then l else ⟨#[]⟩,decide (k=4)⟩
def Good (x l:ByteArray) (ws:List ByteArray) (c k:Nat):Prop:=rightA (docC x l c k)=true∧wordsA (docC x l c k)=ws
theorem words_le (a:Acct):(wordsA a).length≤5:=by
 unfold wordsA
 split
 ·unfold markW;split
  ·simp
  ·split
   ·simp
   ·split
    ·simp
    ·split <;> simp
 ·simp
theorem parse_long {ws:List ByteArray} (h:5 < ws.length):parseA ws=(zeroA,5):=by
 rcases parse_err ws with e | ⟨e,_,_⟩
 ·exact e
 ·have:=words_le (parseA ws).1
  rw [e] at this;omega
theorem parse_short {ws:List ByteArray} (h:ws.length < 3):parseA ws=(zeroA,5):=by unfold parseA;rw [if_pos h]
theorem cand_of {a:Acct} {ws:List ByteArray} {x l:ByteArray} (hr:rightA a=true) (hw:wordsA a=ws) (hx:ws[1]?=some x) (hl:ws[ws.length - 1]?=some l):∃ c k,c < 3∧k < 5∧a=docC x l c k:=by
 obtain ⟨_,h2,h3⟩:=right_parts hr
 have hw':ws=tAccount::a.code::clsW a.cls::markW a:=by rw [←hw];unfold wordsA;rw [if_pos hr]
 have hxc:x=a.code:=by rw [hw'] at hx;simpa using hx.symm
 obtain ⟨c,hc,hcl⟩:∃ c:Nat,c < 3∧a.cls=(c:Int):=by
  rcases h2 with h | h | h
  ·exact ⟨0,by omega,by rw [h];rfl⟩
  ·exact ⟨1,by omega,by rw [h];rfl⟩
  ·exact ⟨2,by omega,by rw [h];rfl⟩
 subst hxc
 rcases marks_ways h3 with ⟨e1,e2,e3,e4⟩ | ⟨e1,e2,e3,e4,_⟩ | ⟨e1,e2,e3,e4,_⟩ | ⟨e1,e2,e3,e6,e4,_⟩ | ⟨e1,e2,e3,e6,e4,_⟩
 ·exact ⟨c,0,hc,by omega,Acct.ext' rfl hcl e1 e2 e3 e4⟩
 ·exact ⟨c,1,hc,by omega,Acct.ext' rfl hcl e1 e2 e3 e4⟩
 ·exact ⟨c,2,hc,by omega,Acct.ext' rfl hcl e1 e2 e3 e4⟩
 ·refine ⟨c,3,hc,by omega,Acct.ext' rfl hcl e1 e2 ?_ e4⟩
  rw [hw'] at hl
  simp [markW,e1,e2,e4,e6] at hl
  simpa [docC] using hl
 ·refine ⟨c,4,hc,by omega,Acct.ext' rfl hcl e1 e2 ?_ e4⟩
  rw [hw'] at hl
  simp [markW,e1,e2,e4] at hl
  simpa [docC] using hl
theorem parse_none {ws:List ByteArray} {x l:ByteArray} (hx:ws[1]?=some x) (hl:ws[ws.length - 1]?=some l) (h:∀ c k,c < 3→k < 5→¬ Good x l ws c k):parseA ws=(zeroA,5):=by
 rcases parse_err ws with e | ⟨e,hr,_⟩
 ·exact e
 ·obtain ⟨c,k,hc,hk,ha⟩:=cand_of hr e hx hl
  exact absurd ⟨ha ▸ hr,ha ▸ e⟩ (h c k hc hk)
def NoneTo (x l:ByteArray) (ws:List ByteArray) (c k:Nat):Prop:=∀ c' k',k' < 5→(c' < c∨c'=c∧k' < k)→¬ Good x l ws c' k'
theorem NoneTo.next {x l:ByteArray} {ws:List ByteArray} {c k:Nat} (h:NoneTo x l ws c k) (hn:¬ Good x l ws c k):NoneTo x l ws c (k+1):=fun c' k' hk' hd hg=>by
 by_cases he:c'=c∧k'=k
 ·obtain ⟨rfl,rfl⟩:=he;exact hn hg
 ·exact h c' k' hk' (by omega) hg
theorem NoneTo.row {x l:ByteArray} {ws:List ByteArray} {c:Nat} (h:NoneTo x l ws c 5):NoneTo x l ws (c+1) 0:=fun c' k' hk' hd=>h c' k' hk' (by omega)
abbrev cells23 (a:Acct):Obj:=.cells #[.string a.code,.int .i64 a.cls,.bool a.cash,.bool a.both,.string a.fixed,.bool a.worn] 157
set_option maxRecDepth 100000 in
set_option maxHeartbeats 8000000 in
theorem rparse_any (v:Value) (ws:List ByteArray) (w:World) (h:StrsV w v ws) :
 Calls Tryz.prog 74 #[v] w fun e w'=>e=.returned (.tuple #[aggF (parseA ws).1,.int .i64 (parseA ws).2])∧Below w.heap.size w w':=by
 have HV:=Lib.hid h
 obtain ⟨p,c,rfl,hcap,hm,hc⟩:=h
 obtain ⟨n,hn⟩:∃ n,ws.length=n:=⟨_,rfl⟩
 rw [hn] at hcap hm HV ⊢
 unfold maxLen at hm
 have HB0:=Lib.hid ((Below.refl w.heap.size w).alloc (Nat.le_refl _) (.cells #[.string ⟨#[]⟩,.int .i64 0,.bool false,.bool false,.string ⟨#[]⟩,.bool false] 157))
 have HX0:=Lib.hid (BoxA.new w zeroA 157)
 by_cases h3:n < 3
 ·have hP:Hid (parseA ws=(zeroA,5)):=Lib.hid (parse_short (by rw [hn];exact h3))
  rw [hP.out]
  clear hn hc
  go_enter Tryz.func74,Tryz.ntmps74
  go_wp2
  refine bodyPost_ret (v:=.tuple #[aggF zeroA,.int .i64 5]) (by simp [results,Tryz.results74,go_sem,zeroA]) rfl ⟨rfl,HB0.out⟩
 ·by_cases h5:5 < n
  ·have hP:Hid (parseA ws=(zeroA,5)):=Lib.hid (parse_long (by rw [hn];exact h5))
   rw [hP.out]
   clear hn hc
   go_enter Tryz.func74,Tryz.ntmps74
   go_wp2
   refine bodyPost_ret (v:=.tuple #[aggF zeroA,.int .i64 5]) (by simp [results,Tryz.results74,go_sem,zeroA]) rfl ⟨rfl,HB0.out⟩
  ·obtain ⟨x,hx⟩:∃ x,ws[1]?=some x:=⟨_,List.getElem?_eq_getElem (by omega)⟩
   obtain ⟨l,hl⟩:∃ x,ws[n - 1]?=some x:=⟨_,List.getElem?_eq_getElem (by omega)⟩
   obtain ⟨b,o,rfl,k1⟩:=hc 1 x hx
   obtain ⟨b',o',e',k2⟩:=hc (n - 1) l hl
   cases e'
   obtain ⟨R,hR⟩:∃ R,parseA ws=R:=⟨_,rfl⟩
   rw [hR]
   have HR:=Lib.hid hR
   have HX:=Lib.hid hx
   have HL:Hid (ws[ws.length - 1]?=some l):=Lib.hid (by rw [hn];exact hl)
   have HV0:=Lib.hid (HV.out.keep HB0.out)
   have K1:=Lib.hid k1
   have j1:=cell_later HB0.out k1
   have j2:=cell_later HB0.out k2
   have hn1:(n:Int) - 1=((n - 1:Nat):Int):=by omega
   clear hx hl hc hn hR k1 k2
   go_enter Tryz.func74,Tryz.ntmps74
   go_wp2
   go_loopw [3,5] (fun s3 s5 wr=>∃ c:Nat,c≤3∧s5=.int .i64 (c:Int)∧Below w.heap.size w wr∧w.heap.size < wr.heap.size∧BoxA wr w.heap.size 157 zeroA∧s3=.int .i64 0∧Hid (NoneTo x l ws c 0)) (fun _ s5 _=>3 - (intOf s5).toNat)
   case atStart=>exact ⟨0,by omega,rfl,HB0.out,by simp,HX0.out,rfl,Lib.hid fun c' k' _ hd=>by omega⟩
   case round =>
    obtain ⟨q,hq,rfl,hnx,hsz,hbox,rfl,HNO⟩:=hrel
    clear j1 j2
    by_cases hq3:q < 3
    ·have hq3b:decide ((q:Int) < 3)=true:=decide_eq_true (by omega)
     go_wp2
     rename World=>wa
     have HNX:=Lib.hid hnx
     have HSZ:=Lib.hid hsz
     have HBX:=Lib.hid hbox
     clear hnx hsz hbox
     go_loopw [3,6] (fun s3 s6 wr=>∃ k:Nat,k≤5∧s6=.int .i64 (k:Int)∧Below w.heap.size w wr∧w.heap.size < wr.heap.size∧BoxA wr w.heap.size 157 zeroA∧s3=.int .i64 0∧Hid (NoneTo x l ws q k)) (fun _ s6 _=>5 - (intOf s6).toNat)
     case atStart=>exact ⟨0,by omega,rfl,HNX.out,HSZ.out,HBX.out,rfl,HNO⟩
     case round =>
      obtain ⟨k,hk,rfl,hnx,hsz,hbox,rfl,HNK⟩:=hrel
      by_cases hk5:k < 5
      ·have j1:=cell_later hnx K1.out
       have HNX2:=Lib.hid hnx
       have HBX2:=Lib.hid hbox
       have HVW:=Lib.hid (HV.out.keep hnx)
       rcases (by omega:k=0∨k=1∨k=2∨k=3∨k=4) with rfl | rfl | rfl | rfl | rfl
       ·clear hk hk5
        have HG:Hid (Good x l ws q 0 ↔ rightA ⟨x,(q:Int),false,false,⟨#[]⟩,false⟩=true∧wordsA ⟨x,(q:Int),false,false,⟨#[]⟩,false⟩=ws):=Lib.hid Iff.rfl
        have HRT:=Lib.hid (rright_any ⟨x,(q:Int),false,false,⟨#[]⟩,false⟩)
        have HWT:=Lib.hid (rwords_any ⟨x,(q:Int),false,false,⟨#[]⟩,false⟩)
        have HBA:=Lib.hid (hnx.alloc (Nat.le_of_lt hsz) (cells23 ⟨x,(q:Int),false,false,⟨#[]⟩,false⟩))
        have HBA':=Lib.hid ((Below.refl wr.heap.size wr).alloc (Nat.le_refl _) (cells23 ⟨x,(q:Int),false,false,⟨#[]⟩,false⟩))
        have HXA:=Lib.hid (BoxA.new wr ⟨x,(q:Int),false,false,⟨#[]⟩,false⟩ 157)
        have HBXA:=Lib.hid (hbox.keep HBA'.out hsz)
        have HVA:=Lib.hid (HVW.out.keep HBA'.out)
        cases hr:rightA ⟨x,(q:Int),false,false,⟨#[]⟩,false⟩ with
        | false =>
          have hng:Hid (¬ Good x l ws q 0):=Lib.hid (fun h=>by rw [HG.out,hr] at h;cases h.1)
          rw [hr] at HRT
          clear hr
          go_wp2_with fail
          refine (HRT.out _).mono ?_
          rintro e w2 ⟨rfl,hb2⟩
          have HF:=Lib.hid (HBA.out.trans (hb2.mono HBA.out.size))
          have HS2:Hid (w.heap.size < w2.heap.size):=Lib.hid (by have:=hb2.size;simp at this;omega)
          have HB2:=Lib.hid (HBXA.out.keep hb2 (by simp;omega))
          clear hb2
          go_wp2
          go_roundw
          case rel=>first | exact ⟨1,by omega,by first | rfl | go_num,HF.out,HS2.out,HB2.out,rfl,Lib.hid (HNK.out.next hng.out)⟩ | ((repeat apply Exists.intro);exact ⟨⟨1,by omega,by first | rfl | go_num,HF.out,HS2.out,HB2.out,rfl,Lib.hid (HNK.out.next hng.out)⟩,rfl⟩)
          case measure=>simp [intOf]
        | true =>
          rw [hr] at HRT
          have HRR:=Lib.hid hr
          clear hr
          go_wp2_with fail
          refine (HRT.out _).mono ?_
          rintro e w2 ⟨rfl,hb2⟩
          have HF:=Lib.hid (HBA.out.trans (hb2.mono HBA.out.size))
          have HS2:Hid (w.heap.size < w2.heap.size):=Lib.hid (by have:=hb2.size;simp at this;omega)
          have HB2:=Lib.hid (HBXA.out.keep hb2 (by simp;omega))
          have HX2:=Lib.hid (HXA.out.keep hb2 (by simp))
          have HSX:Hid (wr.heap.size < w2.heap.size):=Lib.hid (by have:=hb2.size;simp at this;omega)
          have HV2:=Lib.hid (HVA.out.keep hb2)
          clear hb2
          obtain ⟨c0,c1,c2,c3,c4,c5⟩:=HX2.out.facts
          simp only at c0 c1 c2 c3 c4 c5
          go_wp2_with fail
          clear c0 c1 c2 c3 c4 c5
          refine (HWT.out _).mono ?_
          rintro e w3 ⟨v3,rfl,hs3,hb3⟩
          have HS3:=Lib.hid hs3
          have HV3:=Lib.hid (HV2.out.keep hb3)
          have HF3:=Lib.hid (HF.out.trans (hb3.mono HF.out.size))
          have HB3:=Lib.hid (HB2.out.keep hb3 HS2.out)
          have HX3:=Lib.hid (HX2.out.keep hb3 HSX.out)
          have HS3':Hid (w.heap.size < w3.heap.size):=Lib.hid (Nat.lt_of_lt_of_le HS2.out hb3.size)
          clear hs3 hb3
          go_wp2_with fail
          refine (sameWords_any _ _ _ ws _ HS3.out HV3.out).mono ?_
          rintro e w4 ⟨rfl,qq,hq4⟩
          have HF4:Hid (Below w.heap.size w w4):=Lib.hid (by rw [hq4];exact below_drewN HF3.out qq)
          have HB4:Hid (BoxA w4 w.heap.size 157 zeroA):=Lib.hid (by rw [hq4];exact HB3.out)
          have HX4:Hid (BoxA w4 wr.heap.size 157 ⟨x,(q:Int),false,false,⟨#[]⟩,false⟩):=Lib.hid (by rw [hq4];exact HX3.out)
          have HS4:Hid (w.heap.size < w4.heap.size):=Lib.hid (by rw [hq4];exact HS3'.out)
          clear hq4
          by_cases hw:wordsA ⟨x,(q:Int),false,false,⟨#[]⟩,false⟩=ws
          ·have hsm:Hid (sameW (wordsA ⟨x,(q:Int),false,false,⟨#[]⟩,false⟩) ws=true):=Lib.hid (decide_eq_true hw)
           have hres:Hid (R=(⟨x,(q:Int),false,false,⟨#[]⟩,false⟩,0)):=Lib.hid (by rw [←HR.out];exact parse_of HRR.out hw)
           rw [hsm.out]
           clear hw
           obtain ⟨c0,c1,c2,c3,c4,c5⟩:=HX4.out.facts
           simp only at c0 c1 c2 c3 c4 c5
           go_wp2_with (refine wpList_store_acct rfl 157 (.tmp 2) (.tmp 55) rfl w.heap.size zeroA ⟨x,(q:Int),false,false,⟨#[]⟩,false⟩ 157 rfl rfl HB4.out (by kernel_rfl) ?_;intro w8 hb8 hg8)
           have HFF:=Lib.hid (HF4.out.grown hg8 HF4.out.size (fun j hj=>by cases hj;exact Nat.le_refl _))
           obtain ⟨t0,t1,t2,t3,t4,t5⟩:=hb8.facts
           simp only at t0 t1 t2 t3 t4 t5
           clear hb8 hg8
           refine bodyPost_ret (v:=.tuple #[aggF ⟨x,(q:Int),false,false,⟨#[]⟩,false⟩,.int .i64 0]) (by simp [results,Tryz.results74,go_sem,t0,t1,t2,t3,t4,t5]) rfl ⟨by rw [hres.out],HFF.out⟩
          ·have hsm:Hid (sameW (wordsA ⟨x,(q:Int),false,false,⟨#[]⟩,false⟩) ws=false):=Lib.hid (decide_eq_false hw)
           have hng:Hid (¬ Good x l ws q 0):=Lib.hid (fun h=>by rw [HG.out] at h;exact hw h.2)
           rw [hsm.out]
           clear hw
           go_wp2
           go_roundw
           case rel=>first | exact ⟨1,by omega,by first | rfl | go_num,HF4.out,HS4.out,HB4.out,rfl,Lib.hid (HNK.out.next hng.out)⟩ | ((repeat apply Exists.intro);exact ⟨⟨1,by omega,by first | rfl | go_num,HF4.out,HS4.out,HB4.out,rfl,Lib.hid (HNK.out.next hng.out)⟩,rfl⟩)
           case measure=>simp [intOf]
       ·clear hk hk5
        have HG:Hid (Good x l ws q 1 ↔ rightA ⟨x,(q:Int),true,false,⟨#[]⟩,false⟩=true∧wordsA ⟨x,(q:Int),true,false,⟨#[]⟩,false⟩=ws):=Lib.hid Iff.rfl
        have HRT:=Lib.hid (rright_any ⟨x,(q:Int),true,false,⟨#[]⟩,false⟩)
        have HWT:=Lib.hid (rwords_any ⟨x,(q:Int),true,false,⟨#[]⟩,false⟩)
        have HBA:=Lib.hid (hnx.alloc (Nat.le_of_lt hsz) (cells23 ⟨x,(q:Int),true,false,⟨#[]⟩,false⟩))
        have HBA':=Lib.hid ((Below.refl wr.heap.size wr).alloc (Nat.le_refl _) (cells23 ⟨x,(q:Int),true,false,⟨#[]⟩,false⟩))
        have HXA:=Lib.hid (BoxA.new wr ⟨x,(q:Int),true,false,⟨#[]⟩,false⟩ 157)
        have HBXA:=Lib.hid (hbox.keep HBA'.out hsz)
        have HVA:=Lib.hid (HVW.out.keep HBA'.out)
        cases hr:rightA ⟨x,(q:Int),true,false,⟨#[]⟩,false⟩ with
        | false =>
          have hng:Hid (¬ Good x l ws q 1):=Lib.hid (fun h=>by rw [HG.out,hr] at h;cases h.1)
          rw [hr] at HRT
          clear hr
          go_wp2_with fail
          refine (HRT.out _).mono ?_
          rintro e w2 ⟨rfl,hb2⟩
          have HF:=Lib.hid (HBA.out.trans (hb2.mono HBA.out.size))
          have HS2:Hid (w.heap.size < w2.heap.size):=Lib.hid (by have:=hb2.size;simp at this;omega)
          have HB2:=Lib.hid (HBXA.out.keep hb2 (by simp;omega))
          clear hb2
          go_wp2
          go_roundw
          case rel=>first | exact ⟨2,by omega,by first | rfl | go_num,HF.out,HS2.out,HB2.out,rfl,Lib.hid (HNK.out.next hng.out)⟩ | ((repeat apply Exists.intro);exact ⟨⟨2,by omega,by first | rfl | go_num,HF.out,HS2.out,HB2.out,rfl,Lib.hid (HNK.out.next hng.out)⟩,rfl⟩)
          case measure=>simp [intOf]
        | true =>
          rw [hr] at HRT
          have HRR:=Lib.hid hr
          clear hr
          go_wp2_with fail
          refine (HRT.out _).mono ?_
          rintro e w2 ⟨rfl,hb2⟩
          have HF:=Lib.hid (HBA.out.trans (hb2.mono HBA.out.size))
          have HS2:Hid (w.heap.size < w2.heap.size):=Lib.hid (by have:=hb2.size;simp at this;omega)
          have HB2:=Lib.hid (HBXA.out.keep hb2 (by simp;omega))
          have HX2:=Lib.hid (HXA.out.keep hb2 (by simp))
          have HSX:Hid (wr.heap.size < w2.heap.size):=Lib.hid (by have:=hb2.size;simp at this;omega)
          have HV2:=Lib.hid (HVA.out.keep hb2)
          clear hb2
          obtain ⟨c0,c1,c2,c3,c4,c5⟩:=HX2.out.facts
          simp only at c0 c1 c2 c3 c4 c5
          go_wp2_with fail
          clear c0 c1 c2 c3 c4 c5
          refine (HWT.out _).mono ?_
          rintro e w3 ⟨v3,rfl,hs3,hb3⟩
          have HS3:=Lib.hid hs3
          have HV3:=Lib.hid (HV2.out.keep hb3)
          have HF3:=Lib.hid (HF.out.trans (hb3.mono HF.out.size))
          have HB3:=Lib.hid (HB2.out.keep hb3 HS2.out)
          have HX3:=Lib.hid (HX2.out.keep hb3 HSX.out)
          have HS3':Hid (w.heap.size < w3.heap.size):=Lib.hid (Nat.lt_of_lt_of_le HS2.out hb3.size)
          clear hs3 hb3
          go_wp2_with fail
          refine (sameWords_any _ _ _ ws _ HS3.out HV3.out).mono ?_
          rintro e w4 ⟨rfl,qq,hq4⟩
          have HF4:Hid (Below w.heap.size w w4):=Lib.hid (by rw [hq4];exact below_drewN HF3.out qq)
          have HB4:Hid (BoxA w4 w.heap.size 157 zeroA):=Lib.hid (by rw [hq4];exact HB3.out)
          have HX4:Hid (BoxA w4 wr.heap.size 157 ⟨x,(q:Int),true,false,⟨#[]⟩,false⟩):=Lib.hid (by rw [hq4];exact HX3.out)
          have HS4:Hid (w.heap.size < w4.heap.size):=Lib.hid (by rw [hq4];exact HS3'.out)
          clear hq4
          by_cases hw:wordsA ⟨x,(q:Int),true,false,⟨#[]⟩,false⟩=ws
          ·have hsm:Hid (sameW (wordsA ⟨x,(q:Int),true,false,⟨#[]⟩,false⟩) ws=true):=Lib.hid (decide_eq_true hw)
           have hres:Hid (R=(⟨x,(q:Int),true,false,⟨#[]⟩,false⟩,0)):=Lib.hid (by rw [←HR.out];exact parse_of HRR.out hw)
           rw [hsm.out]
           clear hw
           obtain ⟨c0,c1,c2,c3,c4,c5⟩:=HX4.out.facts
           simp only at c0 c1 c2 c3 c4 c5
           go_wp2_with (refine wpList_store_acct rfl 157 (.tmp 2) (.tmp 55) rfl w.heap.size zeroA ⟨x,(q:Int),true,false,⟨#[]⟩,false⟩ 157 rfl rfl HB4.out (by kernel_rfl) ?_;intro w8 hb8 hg8)
           have HFF:=Lib.hid (HF4.out.grown hg8 HF4.out.size (fun j hj=>by cases hj;exact Nat.le_refl _))
           obtain ⟨t0,t1,t2,t3,t4,t5⟩:=hb8.facts
           simp only at t0 t1 t2 t3 t4 t5
           clear hb8 hg8
           refine bodyPost_ret (v:=.tuple #[aggF ⟨x,(q:Int),true,false,⟨#[]⟩,false⟩,.int .i64 0]) (by simp [results,Tryz.results74,go_sem,t0,t1,t2,t3,t4,t5]) rfl ⟨by rw [hres.out],HFF.out⟩
          ·have hsm:Hid (sameW (wordsA ⟨x,(q:Int),true,false,⟨#[]⟩,false⟩) ws=false):=Lib.hid (decide_eq_false hw)
           have hng:Hid (¬ Good x l ws q 1):=Lib.hid (fun h=>by rw [HG.out] at h;exact hw h.2)
           rw [hsm.out]
           clear hw
           go_wp2
           go_roundw
           case rel=>first | exact ⟨2,by omega,by first | rfl | go_num,HF4.out,HS4.out,HB4.out,rfl,Lib.hid (HNK.out.next hng.out)⟩ | ((repeat apply Exists.intro);exact ⟨⟨2,by omega,by first | rfl | go_num,HF4.out,HS4.out,HB4.out,rfl,Lib.hid (HNK.out.next hng.out)⟩,rfl⟩)
           case measure=>simp [intOf]
       ·clear hk hk5
        have HG:Hid (Good x l ws q 2 ↔ rightA ⟨x,(q:Int),false,true,⟨#[]⟩,false⟩=true∧wordsA ⟨x,(q:Int),false,true,⟨#[]⟩,false⟩=ws):=Lib.hid Iff.rfl
        have HRT:=Lib.hid (rright_any ⟨x,(q:Int),false,true,⟨#[]⟩,false⟩)
        have HWT:=Lib.hid (rwords_any ⟨x,(q:Int),false,true,⟨#[]⟩,false⟩)
        have HBA:=Lib.hid (hnx.alloc (Nat.le_of_lt hsz) (cells23 ⟨x,(q:Int),false,true,⟨#[]⟩,false⟩))
        have HBA':=Lib.hid ((Below.refl wr.heap.size wr).alloc (Nat.le_refl _) (cells23 ⟨x,(q:Int),false,true,⟨#[]⟩,false⟩))
        have HXA:=Lib.hid (BoxA.new wr ⟨x,(q:Int),false,true,⟨#[]⟩,false⟩ 157)
        have HBXA:=Lib.hid (hbox.keep HBA'.out hsz)
        have HVA:=Lib.hid (HVW.out.keep HBA'.out)
        cases hr:rightA ⟨x,(q:Int),false,true,⟨#[]⟩,false⟩ with
        | false =>
          have hng:Hid (¬ Good x l ws q 2):=Lib.hid (fun h=>by rw [HG.out,hr] at h;cases h.1)
          rw [hr] at HRT
          clear hr
          go_wp2_with fail
          refine (HRT.out _).mono ?_
          rintro e w2 ⟨rfl,hb2⟩
          have HF:=Lib.hid (HBA.out.trans (hb2.mono HBA.out.size))
          have HS2:Hid (w.heap.size < w2.heap.size):=Lib.hid (by have:=hb2.size;simp at this;omega)
          have HB2:=Lib.hid (HBXA.out.keep hb2 (by simp;omega))
          clear hb2
          go_wp2
          go_roundw
          case rel=>first | exact ⟨3,by omega,by first | rfl | go_num,HF.out,HS2.out,HB2.out,rfl,Lib.hid (HNK.out.next hng.out)⟩ | ((repeat apply Exists.intro);exact ⟨⟨3,by omega,by first | rfl | go_num,HF.out,HS2.out,HB2.out,rfl,Lib.hid (HNK.out.next hng.out)⟩,rfl⟩)
          case measure=>simp [intOf]
        | true =>
          rw [hr] at HRT
          have HRR:=Lib.hid hr
          clear hr
          go_wp2_with fail
          refine (HRT.out _).mono ?_
          rintro e w2 ⟨rfl,hb2⟩
          have HF:=Lib.hid (HBA.out.trans (hb2.mono HBA.out.size))
          have HS2:Hid (w.heap.size < w2.heap.size):=Lib.hid (by have:=hb2.size;simp at this;omega)
          have HB2:=Lib.hid (HBXA.out.keep hb2 (by simp;omega))
          have HX2:=Lib.hid (HXA.out.keep hb2 (by simp))
          have HSX:Hid (wr.heap.size < w2.heap.size):=Lib.hid (by have:=hb2.size;simp at this;omega)
          have HV2:=Lib.hid (HVA.out.keep hb2)
          clear hb2
          obtain ⟨c0,c1,c2,c3,c4,c5⟩:=HX2.out.facts
          simp only at c0 c1 c2 c3 c4 c5
          go_wp2_with fail
          clear c0 c1 c2 c3 c4 c5
          refine (HWT.out _).mono ?_
          rintro e w3 ⟨v3,rfl,hs3,hb3⟩
          have HS3:=Lib.hid hs3
          have HV3:=Lib.hid (HV2.out.keep hb3)
          have HF3:=Lib.hid (HF.out.trans (hb3.mono HF.out.size))
          have HB3:=Lib.hid (HB2.out.keep hb3 HS2.out)
          have HX3:=Lib.hid (HX2.out.keep hb3 HSX.out)
          have HS3':Hid (w.heap.size < w3.heap.size):=Lib.hid (Nat.lt_of_lt_of_le HS2.out hb3.size)
          clear hs3 hb3
          go_wp2_with fail
          refine (sameWords_any _ _ _ ws _ HS3.out HV3.out).mono ?_
          rintro e w4 ⟨rfl,qq,hq4⟩
          have HF4:Hid (Below w.heap.size w w4):=Lib.hid (by rw [hq4];exact below_drewN HF3.out qq)
          have HB4:Hid (BoxA w4 w.heap.size 157 zeroA):=Lib.hid (by rw [hq4];exact HB3.out)
          have HX4:Hid (BoxA w4 wr.heap.size 157 ⟨x,(q:Int),false,true,⟨#[]⟩,false⟩):=Lib.hid (by rw [hq4];exact HX3.out)
          have HS4:Hid (w.heap.size < w4.heap.size):=Lib.hid (by rw [hq4];exact HS3'.out)
          clear hq4
          by_cases hw:wordsA ⟨x,(q:Int),false,true,⟨#[]⟩,false⟩=ws
          ·have hsm:Hid (sameW (wordsA ⟨x,(q:Int),false,true,⟨#[]⟩,false⟩) ws=true):=Lib.hid (decide_eq_true hw)
           have hres:Hid (R=(⟨x,(q:Int),false,true,⟨#[]⟩,false⟩,0)):=Lib.hid (by rw [←HR.out];exact parse_of HRR.out hw)
           rw [hsm.out]
           clear hw
           obtain ⟨c0,c1,c2,c3,c4,c5⟩:=HX4.out.facts
           simp only at c0 c1 c2 c3 c4 c5
           go_wp2_with (refine wpList_store_acct rfl 157 (.tmp 2) (.tmp 55) rfl w.heap.size zeroA ⟨x,(q:Int),false,true,⟨#[]⟩,false⟩ 157 rfl rfl HB4.out (by kernel_rfl) ?_;intro w8 hb8 hg8)
           have HFF:=Lib.hid (HF4.out.grown hg8 HF4.out.size (fun j hj=>by cases hj;exact Nat.le_refl _))
           obtain ⟨t0,t1,t2,t3,t4,t5⟩:=hb8.facts
           simp only at t0 t1 t2 t3 t4 t5
           clear hb8 hg8
           refine bodyPost_ret (v:=.tuple #[aggF ⟨x,(q:Int),false,true,⟨#[]⟩,false⟩,.int .i64 0]) (by simp [results,Tryz.results74,go_sem,t0,t1,t2,t3,t4,t5]) rfl ⟨by rw [hres.out],HFF.out⟩
          ·have hsm:Hid (sameW (wordsA ⟨x,(q:Int),false,true,⟨#[]⟩,false⟩) ws=false):=Lib.hid (decide_eq_false hw)
           have hng:Hid (¬ Good x l ws q 2):=Lib.hid (fun h=>by rw [HG.out] at h;exact hw h.2)
           rw [hsm.out]
           clear hw
           go_wp2
           go_roundw
           case rel=>first | exact ⟨3,by omega,by first | rfl | go_num,HF4.out,HS4.out,HB4.out,rfl,Lib.hid (HNK.out.next hng.out)⟩ | ((repeat apply Exists.intro);exact ⟨⟨3,by omega,by first | rfl | go_num,HF4.out,HS4.out,HB4.out,rfl,Lib.hid (HNK.out.next hng.out)⟩,rfl⟩)
           case measure=>simp [intOf]
       ·clear hk hk5
        have HG:Hid (Good x l ws q 3 ↔ rightA ⟨x,(q:Int),false,false,l,false⟩=true∧wordsA ⟨x,(q:Int),false,false,l,false⟩=ws):=Lib.hid Iff.rfl
        have HRT:=Lib.hid (rright_any ⟨x,(q:Int),false,false,l,false⟩)
        have HWT:=Lib.hid (rwords_any ⟨x,(q:Int),false,false,l,false⟩)
        have HBA:=Lib.hid (hnx.alloc (Nat.le_of_lt hsz) (cells23 ⟨x,(q:Int),false,false,l,false⟩))
        have HBA':=Lib.hid ((Below.refl wr.heap.size wr).alloc (Nat.le_refl _) (cells23 ⟨x,(q:Int),false,false,l,false⟩))
        have HXA:=Lib.hid (BoxA.new wr ⟨x,(q:Int),false,false,l,false⟩ 157)
        have HBXA:=Lib.hid (hbox.keep HBA'.out hsz)
        have HVA:=Lib.hid (HVW.out.keep HBA'.out)
        cases hr:rightA ⟨x,(q:Int),false,false,l,false⟩ with
        | false =>
          have hng:Hid (¬ Good x l ws q 3):=Lib.hid (fun h=>by rw [HG.out,hr] at h;cases h.1)
          rw [hr] at HRT
          clear hr
          go_wp2_with fail
          refine (HRT.out _).mono ?_
          rintro e w2 ⟨rfl,hb2⟩
          have HF:=Lib.hid (HBA.out.trans (hb2.mono HBA.out.size))
          have HS2:Hid (w.heap.size < w2.heap.size):=Lib.hid (by have:=hb2.size;simp at this;omega)
          have HB2:=Lib.hid (HBXA.out.keep hb2 (by simp;omega))
          clear hb2
          go_wp2
          go_roundw
          case rel=>first | exact ⟨4,by omega,by first | rfl | go_num,HF.out,HS2.out,HB2.out,rfl,Lib.hid (HNK.out.next hng.out)⟩ | ((repeat apply Exists.intro);exact ⟨⟨4,by omega,by first | rfl | go_num,HF.out,HS2.out,HB2.out,rfl,Lib.hid (HNK.out.next hng.out)⟩,rfl⟩)
          case measure=>simp [intOf]
        | true =>
          rw [hr] at HRT
          have HRR:=Lib.hid hr
          clear hr
          go_wp2_with fail
          refine (HRT.out _).mono ?_
          rintro e w2 ⟨rfl,hb2⟩
          have HF:=Lib.hid (HBA.out.trans (hb2.mono HBA.out.size))
          have HS2:Hid (w.heap.size < w2.heap.size):=Lib.hid (by have:=hb2.size;simp at this;omega)
          have HB2:=Lib.hid (HBXA.out.keep hb2 (by simp;omega))
          have HX2:=Lib.hid (HXA.out.keep hb2 (by simp))
          have HSX:Hid (wr.heap.size < w2.heap.size):=Lib.hid (by have:=hb2.size;simp at this;omega)
          have HV2:=Lib.hid (HVA.out.keep hb2)
          clear hb2
          obtain ⟨c0,c1,c2,c3,c4,c5⟩:=HX2.out.facts
          simp only at c0 c1 c2 c3 c4 c5
          go_wp2_with fail
          clear c0 c1 c2 c3 c4 c5
          refine (HWT.out _).mono ?_
          rintro e w3 ⟨v3,rfl,hs3,hb3⟩
          have HS3:=Lib.hid hs3
          have HV3:=Lib.hid (HV2.out.keep hb3)
          have HF3:=Lib.hid (HF.out.trans (hb3.mono HF.out.size))
          have HB3:=Lib.hid (HB2.out.keep hb3 HS2.out)
          have HX3:=Lib.hid (HX2.out.keep hb3 HSX.out)
          have HS3':Hid (w.heap.size < w3.heap.size):=Lib.hid (Nat.lt_of_lt_of_le HS2.out hb3.size)
          clear hs3 hb3
          go_wp2_with fail
          refine (sameWords_any _ _ _ ws _ HS3.out HV3.out).mono ?_
          rintro e w4 ⟨rfl,qq,hq4⟩
          have HF4:Hid (Below w.heap.size w w4):=Lib.hid (by rw [hq4];exact below_drewN HF3.out qq)
          have HB4:Hid (BoxA w4 w.heap.size 157 zeroA):=Lib.hid (by rw [hq4];exact HB3.out)
          have HX4:Hid (BoxA w4 wr.heap.size 157 ⟨x,(q:Int),false,false,l,false⟩):=Lib.hid (by rw [hq4];exact HX3.out)
          have HS4:Hid (w.heap.size < w4.heap.size):=Lib.hid (by rw [hq4];exact HS3'.out)
          clear hq4
          by_cases hw:wordsA ⟨x,(q:Int),false,false,l,false⟩=ws
          ·have hsm:Hid (sameW (wordsA ⟨x,(q:Int),false,false,l,false⟩) ws=true):=Lib.hid (decide_eq_true hw)
           have hres:Hid (R=(⟨x,(q:Int),false,false,l,false⟩,0)):=Lib.hid (by rw [←HR.out];exact parse_of HRR.out hw)
           rw [hsm.out]
           clear hw
           obtain ⟨c0,c1,c2,c3,c4,c5⟩:=HX4.out.facts
           simp only at c0 c1 c2 c3 c4 c5
           go_wp2_with (refine wpList_store_acct rfl 157 (.tmp 2) (.tmp 55) rfl w.heap.size zeroA ⟨x,(q:Int),false,false,l,false⟩ 157 rfl rfl HB4.out (by kernel_rfl) ?_;intro w8 hb8 hg8)
           have HFF:=Lib.hid (HF4.out.grown hg8 HF4.out.size (fun j hj=>by cases hj;exact Nat.le_refl _))
           obtain ⟨t0,t1,t2,t3,t4,t5⟩:=hb8.facts
           simp only at t0 t1 t2 t3 t4 t5
           clear hb8 hg8
           refine bodyPost_ret (v:=.tuple #[aggF ⟨x,(q:Int),false,false,l,false⟩,.int .i64 0]) (by simp [results,Tryz.results74,go_sem,t0,t1,t2,t3,t4,t5]) rfl ⟨by rw [hres.out],HFF.out⟩
          ·have hsm:Hid (sameW (wordsA ⟨x,(q:Int),false,false,l,false⟩) ws=false):=Lib.hid (decide_eq_false hw)
           have hng:Hid (¬ Good x l ws q 3):=Lib.hid (fun h=>by rw [HG.out] at h;exact hw h.2)
           rw [hsm.out]
           clear hw
           go_wp2
           go_roundw
           case rel=>first | exact ⟨4,by omega,by first | rfl | go_num,HF4.out,HS4.out,HB4.out,rfl,Lib.hid (HNK.out.next hng.out)⟩ | ((repeat apply Exists.intro);exact ⟨⟨4,by omega,by first | rfl | go_num,HF4.out,HS4.out,HB4.out,rfl,Lib.hid (HNK.out.next hng.out)⟩,rfl⟩)
           case measure=>simp [intOf]
       ·clear hk hk5
        have HG:Hid (Good x l ws q 4 ↔ rightA ⟨x,(q:Int),false,false,l,true⟩=true∧wordsA ⟨x,(q:Int),false,false,l,true⟩=ws):=Lib.hid Iff.rfl
        have HRT:=Lib.hid (rright_any ⟨x,(q:Int),false,false,l,true⟩)
        have HWT:=Lib.hid (rwords_any ⟨x,(q:Int),false,false,l,true⟩)
        have HBA:=Lib.hid (hnx.alloc (Nat.le_of_lt hsz) (cells23 ⟨x,(q:Int),false,false,l,true⟩))
        have HBA':=Lib.hid ((Below.refl wr.heap.size wr).alloc (Nat.le_refl _) (cells23 ⟨x,(q:Int),false,false,l,true⟩))
        have HXA:=Lib.hid (BoxA.new wr ⟨x,(q:Int),false,false,l,true⟩ 157)
        have HBXA:=Lib.hid (hbox.keep HBA'.out hsz)
        have HVA:=Lib.hid (HVW.out.keep HBA'.out)
        cases hr:rightA ⟨x,(q:Int),false,false,l,true⟩ with
        | false =>
          have hng:Hid (¬ Good x l ws q 4):=Lib.hid (fun h=>by rw [HG.out,hr] at h;cases h.1)
          rw [hr] at HRT
          clear hr
          go_wp2_with fail
          refine (HRT.out _).mono ?_
          rintro e w2 ⟨rfl,hb2⟩
          have HF:=Lib.hid (HBA.out.trans (hb2.mono HBA.out.size))
          have HS2:Hid (w.heap.size < w2.heap.size):=Lib.hid (by have:=hb2.size;simp at this;omega)
          have HB2:=Lib.hid (HBXA.out.keep hb2 (by simp;omega))
          clear hb2
          go_wp2
          go_roundw
          case rel=>first | exact ⟨5,by omega,by first | rfl | go_num,HF.out,HS2.out,HB2.out,rfl,Lib.hid (HNK.out.next hng.out)⟩ | ((repeat apply Exists.intro);exact ⟨⟨5,by omega,by first | rfl | go_num,HF.out,HS2.out,HB2.out,rfl,Lib.hid (HNK.out.next hng.out)⟩,rfl⟩)
          case measure=>simp [intOf]
        | true =>
          rw [hr] at HRT
          have HRR:=Lib.hid hr
          clear hr
          go_wp2_with fail
          refine (HRT.out _).mono ?_
          rintro e w2 ⟨rfl,hb2⟩
          have HF:=Lib.hid (HBA.out.trans (hb2.mono HBA.out.size))
          have HS2:Hid (w.heap.size < w2.heap.size):=Lib.hid (by have:=hb2.size;simp at this;omega)
          have HB2:=Lib.hid (HBXA.out.keep hb2 (by simp;omega))
          have HX2:=Lib.hid (HXA.out.keep hb2 (by simp))
          have HSX:Hid (wr.heap.size < w2.heap.size):=Lib.hid (by have:=hb2.size;simp at this;omega)
          have HV2:=Lib.hid (HVA.out.keep hb2)
          clear hb2
          obtain ⟨c0,c1,c2,c3,c4,c5⟩:=HX2.out.facts
          simp only at c0 c1 c2 c3 c4 c5
          go_wp2_with fail
          clear c0 c1 c2 c3 c4 c5
          refine (HWT.out _).mono ?_
          rintro e w3 ⟨v3,rfl,hs3,hb3⟩
          have HS3:=Lib.hid hs3
          have HV3:=Lib.hid (HV2.out.keep hb3)
          have HF3:=Lib.hid (HF.out.trans (hb3.mono HF.out.size))
          have HB3:=Lib.hid (HB2.out.keep hb3 HS2.out)
          have HX3:=Lib.hid (HX2.out.keep hb3 HSX.out)
          have HS3':Hid (w.heap.size < w3.heap.size):=Lib.hid (Nat.lt_of_lt_of_le HS2.out hb3.size)
          clear hs3 hb3
          go_wp2_with fail
          refine (sameWords_any _ _ _ ws _ HS3.out HV3.out).mono ?_
          rintro e w4 ⟨rfl,qq,hq4⟩
          have HF4:Hid (Below w.heap.size w w4):=Lib.hid (by rw [hq4];exact below_drewN HF3.out qq)
          have HB4:Hid (BoxA w4 w.heap.size 157 zeroA):=Lib.hid (by rw [hq4];exact HB3.out)
          have HX4:Hid (BoxA w4 wr.heap.size 157 ⟨x,(q:Int),false,false,l,true⟩):=Lib.hid (by rw [hq4];exact HX3.out)
          have HS4:Hid (w.heap.size < w4.heap.size):=Lib.hid (by rw [hq4];exact HS3'.out)
          clear hq4
          by_cases hw:wordsA ⟨x,(q:Int),false,false,l,true⟩=ws
          ·have hsm:Hid (sameW (wordsA ⟨x,(q:Int),false,false,l,true⟩) ws=true):=Lib.hid (decide_eq_true hw)
           have hres:Hid (R=(⟨x,(q:Int),false,false,l,true⟩,0)):=Lib.hid (by rw [←HR.out];exact parse_of HRR.out hw)
           rw [hsm.out]
           clear hw
           obtain ⟨c0,c1,c2,c3,c4,c5⟩:=HX4.out.facts
           simp only at c0 c1 c2 c3 c4 c5
           go_wp2_with (refine wpList_store_acct rfl 157 (.tmp 2) (.tmp 55) rfl w.heap.size zeroA ⟨x,(q:Int),false,false,l,true⟩ 157 rfl rfl HB4.out (by kernel_rfl) ?_;intro w8 hb8 hg8)
           have HFF:=Lib.hid (HF4.out.grown hg8 HF4.out.size (fun j hj=>by cases hj;exact Nat.le_refl _))
           obtain ⟨t0,t1,t2,t3,t4,t5⟩:=hb8.facts
           simp only at t0 t1 t2 t3 t4 t5
           clear hb8 hg8
           refine bodyPost_ret (v:=.tuple #[aggF ⟨x,(q:Int),false,false,l,true⟩,.int .i64 0]) (by simp [results,Tryz.results74,go_sem,t0,t1,t2,t3,t4,t5]) rfl ⟨by rw [hres.out],HFF.out⟩
          ·have hsm:Hid (sameW (wordsA ⟨x,(q:Int),false,false,l,true⟩) ws=false):=Lib.hid (decide_eq_false hw)
           have hng:Hid (¬ Good x l ws q 4):=Lib.hid (fun h=>by rw [HG.out] at h;exact hw h.2)
           rw [hsm.out]
           clear hw
           go_wp2
           go_roundw
           case rel=>first | exact ⟨5,by omega,by first | rfl | go_num,HF4.out,HS4.out,HB4.out,rfl,Lib.hid (HNK.out.next hng.out)⟩ | ((repeat apply Exists.intro);exact ⟨⟨5,by omega,by first | rfl | go_num,HF4.out,HS4.out,HB4.out,rfl,Lib.hid (HNK.out.next hng.out)⟩,rfl⟩)
           case measure=>simp [intOf]
      ·obtain rfl:k=5:=by omega
       have HNX5:=Lib.hid hnx
       have HBX5:=Lib.hid hbox
       have HSZ5:=Lib.hid hsz
       clear hnx hbox hsz
       go_wp2
       go_roundw
       case rel=>exact ⟨q+1,by omega,by first | rfl | go_num,HNX5.out,HSZ5.out,HBX5.out,rfl,Lib.hid HNK.out.row⟩
       case measure=>simp [intOf];omega
    ·obtain rfl:q=3:=by omega
     have hres:Hid (R=(zeroA,5)):=Lib.hid (by
      rw [←HR.out]
      exact parse_none HX.out HL.out fun c' k' hc' hk'=>HNO.out c' k' hk' (.inl hc'))
     have HNX:=Lib.hid hnx
     go_wp2_with (refine wpList_store_acct rfl 157 (.tmp 2) (.tmp 56) rfl w.heap.size zeroA zeroA 157 rfl rfl hbox (by kernel_rfl) ?_;intro w8 hb8 hg8)
     have HF:=Lib.hid (HNX.out.grown hg8 HNX.out.size (fun j hj=>by cases hj;exact Nat.le_refl _))
     obtain ⟨t0,t1,t2,t3,t4,t5⟩:=hb8.facts
     clear hb8 hg8
     refine bodyPost_ret (v:=.tuple #[aggF zeroA,.int .i64 5]) (by simp [results,Tryz.results74,go_sem,t0,t1,t2,t3,t4,t5]) rfl ⟨by rw [hres.out],HF.out⟩
end Go.Proofs.YthcpglnmhimepaaGreatDoor
