/-
  RunAl, RunAn in one text.
-/
import Derived.Test.YtlppdppddiecnaaGreatDoorLineAll
import Derived.Test.YtlppdppddiecnaaGreatDoorWayAll
import Derived.Test.YtlppdppddiecnaaGreatDoorRunTP
import Derived.Test.YtlppdppddiecnaaGreatDoorWholeAll
namespace Go.Proofs.YtlppdppddiecnaaGreatDoor.Run
open Go.ChangeShapes Go.WideShapes Go.ChangeAt Go.RowKit Go.Proofs.YtlppdppddiecnaaGreatDoor.Mem Go.Proofs.YtlppdppddiecnaaGreatDoor.RN Go.Proofs.YtlppdppddiecnaaGreatDoor.RC
set_option linter.unusedVariables false
theorem of_len {e:Nat} {s:List UInt8} (h:e=0→s.length≤1000000):(An.of e s).tell.length≤1000000:=tell_len _ (fun t ht=>by
  unfold An.of at ht
  split at ht
  · rename_i h0
    cases ht
    exact h h0
  · cases ht)
theorem yes_len (b:Bool):(yesNo b).length≤1000000:=by cases b<;>decide
theorem bad_len:An.bad.tell.length≤1000000:=by decide
section
variable {S:Ss} {a b c:List UInt8}
theorem short_unwrap:(aUnwrap ⟨[a,b],false⟩).tell.length≤1000000:=by
  cases h1:numL a with
  | none=>rw [unwrap_bad (.inl h1)];exact bad_len
  | some u=>
    cases h2:numL b with
    | none=>rw [unwrap_bad (.inr h2)];exact bad_len
    | some v=>
      rw [unwrap_ok h1 h2]
      refine of_len fun _=>?_
      have hb1:=num_bd h1
      have hb2:=num_bd h2
      have h3:=Ser.bey_bd v u
      have h4:-9223372036854775807≤Ser.unw u v∧Ser.unw u v≤9223372036854775807:=by
        unfold Ser.unw
        split<;>omega
      exact itoa_len (by omega) (by omega)
theorem short_seen:(aSeen S ⟨[a],false⟩).1.tell.length≤1000000:=by
  cases h1:numL a with
  | none=>rw [seen_bad S h1];exact bad_len
  | some u=>rw [RN.seen_ok S h1];exact of_len fun _=>yes_len _
theorem short_crc (hl:a.length≤3000):(aSum ⟨[a],false⟩).tell.length≤1000000:=by
  cases h1:bytesR a with
  | none=>rw [crc_bad h1];exact bad_len
  | some L=>
    rw [crc_ok h1]
    have:=CM.go_lt (s:=0) (by decide) (rb_len h1 hl).2
    exact itoa_len (by omega) (by omega)
theorem short_open (hl:a.length≤3000):(aOpen ⟨[a],false⟩).tell.length≤1000000:=by
  cases h1:bytesR a with
  | none=>rw [open_bad h1];exact bad_len
  | some L=>
    rw [open_ok h1]
    refine of_len fun _=>?_
    have:=(rb_len h1 hl).1
    rw [hexOf_len,List.length_take]
    omega
theorem short_pairs:(aPairs ⟨[a],false⟩).tell.length≤1000000:=by
  cases h1:listR a with
  | none=>rw [pairs_bad h1];exact bad_len
  | some L=>
    rw [pairs_ok h1]
    refine of_len fun _=>join_len 32 _ (by have:=(pairs_fit L).1;rw [List.length_map];omega) (fun x hx=>?_)
    obtain ⟨y,hy,rfl⟩:=List.mem_map.1 hx
    have h2:=(pairs_fit L).2 y hy
    have l1:=Lib.itoa_length_le y.1 h2.1.1 h2.1.2
    have l2:=Lib.itoa_length_le y.2 h2.2.1 h2.2.2
    unfold pairText
    simp
    omega
theorem short_fair:(aFair ⟨[a,b],false⟩).tell.length≤1000000:=by
  cases h1:numL a with
  | none=>rw [fair_bad (.inl h1)];exact bad_len
  | some u=>
    cases h2:listR b with
    | none=>rw [fair_bad (.inr h2)];exact bad_len
    | some L=>
      rw [fair_ok h1 h2]
      refine of_len fun h0=>?_
      have hf:=fair_fit u L h0
      refine join_len 44 _ (by rw [List.length_map];omega) (fun x hx=>?_)
      obtain ⟨y,hy,rfl⟩:=List.mem_map.1 hx
      have h2:=hf.2 y hy
      have l1:=Lib.itoa_length_le y h2.1 h2.2
      omega
theorem short_hear (hO:S.Ok):(aHear S ⟨[a],false⟩).1.tell.length≤1000000:=by
  cases h1:listR a with
  | none=>rw [hear_bad S h1];exact bad_len
  | some L=>
    rw [hear_ok S h1]
    refine of_len fun _=>?_
    have:=spk_bd hO.vo (voices L)
    exact itoa_len (by omega) (by omega)
theorem short_take:(aTake S ⟨[a,b,c],false⟩).1.tell.length≤1000000:=by
  by_cases h:numL a=none∨numL b=none∨numL c=none∨∃ v,numL c=some v∧v≠0∧v≠1
  · rw [take_bad S h];exact bad_len
  · cases h1:numL a with
    | none=>exact absurd (.inl h1) h
    | some u=>
      cases h2:numL b with
      | none=>exact absurd (.inr (.inl h2)) h
      | some v=>
        cases h3:numL c with
        | none=>exact absurd (.inr (.inr (.inl h3))) h
        | some f=>
          have hf:f=0∨f=1:=by
            by_cases g0:f=0
            · exact .inl g0
            · by_cases g1:f=1
              · exact .inr g1
              · exact absurd (.inr (.inr (.inr ⟨f,h3,g0,g1⟩))) h
          rw [take_ok S h1 h2 h3 hf]
          exact of_len fun _=>yes_len _
theorem short_gone:(aGone S ⟨[a],false⟩).1.tell.length≤1000000:=by
  cases h1:numL a with
  | none=>rw [gone_bad S h1];exact bad_len
  | some u=>rw [gone_ok S h1];exact of_len fun _=>yes_len _
end
theorem line_all (D:Far) (hD:D.Ok) {w W:World} {b k:Nat} {S:Ss} {x:List UInt8} (h:Dk w W b S k) (hO:S.Ok) (hk5:k≤5000) (hx:x.length≤3000) :
    Calls Tryz.prog 7 #[.pointer (some ⟨b,0,none⟩),.string (bs x)] W (fun e w'=>(line D S x).1.tell.length≤1000000∧LineE w b (k+1) (line D S x) e w'):=by
  obtain ⟨y,r,hk⟩:∃ y r,cutL 32 x=y::r:=by
    cases h:cutL 32 x with
    | nil=>exact absurd h (cutL_ne 32 x)
    | cons y r=>exact ⟨y,r,rfl⟩
  rw [line_eq D S hk]
  by_cases hn:needsL y=((r.length+1:Nat):Int)
  case neg=>
    rw [do_len D S hn]
    exact (li_len h hx hk hn).mono fun e w' q=>⟨bad_len,q.1,q.2.more (Nat.le_succ k)⟩
  by_cases c0:y=kUnwrap
  · subst c0
    have hl:r.length=2:=by
      rw [show needsL kUnwrap=3 from by decide] at hn
      omega
    obtain ⟨a1,a2,rfl⟩:∃ a1 a2,r=[a1,a2]:=by
      match r,hl with
      | [a1,a2],_=>exact ⟨a1,a2,rfl⟩
    have hl1:=word_len hx hk (y:=a1) (by simp)
    rw [RN.do_unwrap D S]
    exact (line_unwrap h hO hk5 hx hk).mono fun e w' q=>⟨short_unwrap,q⟩
  by_cases c1:y=kSeen
  · subst c1
    have hl:r.length=1:=by
      rw [show needsL kSeen=2 from by decide] at hn
      omega
    obtain ⟨a1,rfl⟩:∃ a1,r=[a1]:=by
      match r,hl with
      | [a1],_=>exact ⟨a1,rfl⟩
    have hl1:=word_len hx hk (y:=a1) (by simp)
    rw [RN.do_seen D S]
    exact (line_seen h hO hk5 hx hk).mono fun e w' q=>⟨short_seen,q⟩
  by_cases c2:y=kCrc
  · subst c2
    have hl:r.length=1:=by
      rw [show needsL kCrc=2 from by decide] at hn
      omega
    obtain ⟨a1,rfl⟩:∃ a1,r=[a1]:=by
      match r,hl with
      | [a1],_=>exact ⟨a1,rfl⟩
    have hl1:=word_len hx hk (y:=a1) (by simp)
    rw [RN.do_crc D S]
    exact (line_crc h hO hk5 hx hk).mono fun e w' q=>⟨short_crc hl1,q⟩
  by_cases c3:y=kOpen
  · subst c3
    have hl:r.length=1:=by
      rw [show needsL kOpen=2 from by decide] at hn
      omega
    obtain ⟨a1,rfl⟩:∃ a1,r=[a1]:=by
      match r,hl with
      | [a1],_=>exact ⟨a1,rfl⟩
    have hl1:=word_len hx hk (y:=a1) (by simp)
    rw [RN.do_open D S]
    exact (line_open h hO hk5 hx hk).mono fun e w' q=>⟨short_open hl1,q⟩
  by_cases c4:y=kPairs
  · subst c4
    have hl:r.length=1:=by
      rw [show needsL kPairs=2 from by decide] at hn
      omega
    obtain ⟨a1,rfl⟩:∃ a1,r=[a1]:=by
      match r,hl with
      | [a1],_=>exact ⟨a1,rfl⟩
    have hl1:=word_len hx hk (y:=a1) (by simp)
    rw [RN.do_pairs D S]
    exact (line_pairs h hO hk5 hx hk).mono fun e w' q=>⟨short_pairs,q⟩
  by_cases c5:y=kFair
  · subst c5
    have hl:r.length=2:=by
      rw [show needsL kFair=3 from by decide] at hn
      omega
    obtain ⟨a1,a2,rfl⟩:∃ a1 a2,r=[a1,a2]:=by
      match r,hl with
      | [a1,a2],_=>exact ⟨a1,a2,rfl⟩
    have hl1:=word_len hx hk (y:=a1) (by simp)
    rw [RN.do_fair D S]
    exact (line_fair h hO hk5 hx hk).mono fun e w' q=>⟨short_fair,q⟩
  by_cases c6:y=kHear
  · subst c6
    have hl:r.length=1:=by
      rw [show needsL kHear=2 from by decide] at hn
      omega
    obtain ⟨a1,rfl⟩:∃ a1,r=[a1]:=by
      match r,hl with
      | [a1],_=>exact ⟨a1,rfl⟩
    have hl1:=word_len hx hk (y:=a1) (by simp)
    rw [RN.do_hear D S]
    exact (line_hear h hO hk5 hx hk).mono fun e w' q=>⟨short_hear hO,q⟩
  by_cases c7:y=kTake
  · subst c7
    have hl:r.length=3:=by
      rw [show needsL kTake=4 from by decide] at hn
      omega
    obtain ⟨a1,a2,a3,rfl⟩:∃ a1 a2 a3,r=[a1,a2,a3]:=by
      match r,hl with
      | [a1,a2,a3],_=>exact ⟨a1,a2,a3,rfl⟩
    have hl1:=word_len hx hk (y:=a1) (by simp)
    rw [RN.do_take D S]
    exact (line_take h hO hk5 hx hk).mono fun e w' q=>⟨short_take,q⟩
  by_cases c8:y=kGone
  · subst c8
    have hl:r.length=1:=by
      rw [show needsL kGone=2 from by decide] at hn
      omega
    obtain ⟨a1,rfl⟩:∃ a1,r=[a1]:=by
      match r,hl with
      | [a1],_=>exact ⟨a1,rfl⟩
    have hl1:=word_len hx hk (y:=a1) (by simp)
    rw [RN.do_gone D S]
    exact (line_gone h hO hk5 hx hk).mono fun e w' q=>⟨short_gone,q⟩
  by_cases c9:y=kWay
  · subst c9
    have hl:r.length=2:=by
      rw [show needsL kWay=3 from by decide] at hn
      omega
    obtain ⟨a1,a2,rfl⟩:∃ a1 a2,r=[a1,a2]:=by
      match r,hl with
      | [a1,a2],_=>exact ⟨a1,a2,rfl⟩
    have hl1:=word_len hx hk (y:=a1) (by simp)
    rw [RN.do_way D S]
    exact line_way D hD h hO hk5 hx hk
  have:=needs_none ⟨c7,c0,c5,c9,c1,c2,c3,c4,c6,c8⟩
  omega
set_option maxHeartbeats 2000000 in
set_option maxRecDepth 100000 in
theorem answers_long (D:Far) (hD:D.Ok) (ea:Addr) (text:List UInt8) (h64:text.length≤9223372036854775807) (hl:3000<text.length) (w:World) (g:GW ea w) :
    Calls Tryz.prog 3 #[.string (bs text)] w fun e W'=>e=.returned (.bool true)∧Below w.heap.size w W':=by
  have R:=hidden (run_calls D hD ea text h64 w g)
  have hz:runOf D text=[116,111,111,32,108,111,110,103,10]:=by rw [runOf,if_pos hl]
  rw [hz] at R
  obtain ⟨m,hm⟩:∃ m,text.length=m:=⟨_,rfl⟩
  have hsz:(bs text).size=m:=by rw [bs_size,hm]
  rw [hm] at hl h64
  have q0:((bs [116,111,111,32,108,111,110,103,10]).toList==[116,111,111,32,108,111,110,103,10])=true:=eq_yes _
  have d0:decide ((3000:Int)<(m:Int))=true:=by simp;omega
  clear g hz hm
  go_enter Tryz.func3,Tryz.ntmps3
  go_wp2_with fail
  refine R.out.mono ?_
  rintro e w1 ⟨rfl,hb⟩
  go_wp2_with fail
  go_ret
  exact ⟨rfl,hb⟩
set_option maxHeartbeats 4000000 in
set_option maxRecDepth 100000 in
theorem answers_short (D:Far) (hD:D.Ok) (ea:Addr) (text:List UInt8) (hl:text.length≤3000) (w:World) (g:GW ea w) :
    Calls Tryz.prog 3 #[.string (bs text)] w fun e W'=>e=.returned (.bool true)∧Below w.heap.size w W':=by
  have R:=hidden (run_calls D hD ea text (by omega) w g)
  have hz:runOf D text=answers D ss0 (linesL text):=by rw [runOf,if_neg (by omega)]
  rw [hz] at R
  have hlc:=linesL_cut text
  have hcm:=cut_mem 10 text
  have hcn:=cutL_ne 10 text
  have C:=hidden (cut_calls 10 text (by omega))
  obtain ⟨m,hm⟩:∃ m,text.length=m:=⟨_,rfl⟩
  have hsz:(bs text).size=m:=by rw [bs_size,hm]
  rw [hm] at hl hcm
  obtain ⟨T,hT⟩:∃ T,cutL 10 text=T:=⟨_,rfl⟩
  rw [hT] at hlc hcm hcn C
  obtain ⟨n1,hn1⟩:∃ n1,T.length=n1+1:=⟨T.length - 1,by have:=List.length_pos_iff.2 hcn;omega⟩
  obtain ⟨M,hM⟩:∃ M,linesL text=M:=⟨_,rfl⟩
  rw [hM] at R hlc
  have hlast:T.getLastD []=T.getD n1 []:=by
    rw [List.getLastD_eq_getLast?,List.getLast?_eq_getElem?,hn1,List.getD_eq_getElem?_getD]
    rfl
  rw [hlast] at hlc
  have d0:decide ((3000:Int)<(m:Int))=false:=by simp;omega
  have HLC:=hidden hlc
  have HCM:=hidden hcm
  have HN1:=hidden hn1
  have hn3:n1≤3000:=by have:=hcm.1;omega
  clear g hz hm hT hM hlc hcm hlast
  go_enter Tryz.func3,Tryz.ntmps3
  go_wp2_with fail
  refine R.out.mono ?_
  rintro e w1 ⟨rfl,hb1⟩
  have HB1:=hidden hb1
  clear hb1
  go_wp2_with fail
  refine (C.out w1).mono ?_
  rintro e w2 ⟨v,rfl,hJ⟩
  have HB2:=hidden (HB1.out.trans (hJ.bel.mono HB1.out.size))
  obtain ⟨g,cap,rfl,hat⟩:=words_at hJ hcn
  have hcap:n1+1≤cap:=by
    have ho:=hJ.own
    rcases ho.2 with ⟨_,h0⟩ | ⟨g',cap',cur,e,_,_,h3,_⟩
    · have:=HN1.out;omega
    · cases e
      have:=HN1.out
      omega
  rw [HN1.out]
  have HAT:=hidden hat
  have c9:=hat n1 (by have:=HN1.out;omega)
  clear hat hJ hcn hn1
  have hix:IntKind.i64.wrap (((n1+1:Nat):Int) - 1)=(n1:Int):=by rw [IntKind.wrap_i64];omega
  obtain ⟨y,hy⟩:∃ y,T.getD n1 []=y:=⟨_,rfl⟩
  rw [hy] at c9
  by_cases hy0:y=[]
  · have hM:M=T.dropLast:=by rw [HLC.out,hy,if_pos hy0]
    have q9:((bs y).toList==[])=true:=by rw [hy0];exact eq_yes _
    obtain ⟨mm,hmm0⟩:∃ mm,n1=mm:=⟨_,rfl⟩
    have HMN:Hid (M.length=mm):=hidden (by rw [hM,List.length_dropLast,HN1.out];omega)
    have hget:∀ i,i<mm→M.getD i []=T.getD i []:=by
      intro i hi
      rw [hM,List.getD_eq_getElem?_getD,List.getD_eq_getElem?_getD,List.getElem?_dropLast,if_pos (by rw [HN1.out];omega)]
    have HMC:Hid (∀ i,i<mm→w2.cell? ⟨g,i,none⟩=some (.string (bs (M.getD i [])))):=hidden (fun i hi=>by rw [hget i hi];exact HAT.out i (by have:=HN1.out;omega))
    have HML:Hid (∀ i,i<mm→(M.getD i []).length≤3000):=hidden (fun i hi=>by
      rw [hget i hi]
      have hiT:i<T.length:=by have:=HN1.out;omega
      have:=HCM.out.2 (T.getD i []) (by rw [List.getD_eq_getElem?_getD,List.getElem?_eq_getElem hiT];exact List.getElem_mem hiT)
      omega)
    have hmm:mm≤3001:=by omega
    clear hM hy hy0 hget
    subst hmm0
    go_wp2_with fail
    refine (rnew_calls w2).mono ?_
    rintro e w3 ⟨rfl,hd3⟩
    have H3:Hid (Dk w2 w3 w2.heap.size (after D ss0 (M.take 0)) 0):=hidden (by rw [List.take_zero];exact hd3)
    have HA0:Hid (bs (answers D ss0 (M.take 0))=⟨#[]⟩):=hidden (by rw [List.take_zero];rfl)
    have HL0:Hid ((answers D ss0 (M.take 0)).length≤1000010*0):=hidden (by rw [List.take_zero];exact Nat.le_refl _)
    clear hd3
    obtain ⟨db,hdb⟩:∃ db,w2.heap.size=db:=⟨_,rfl⟩
    rw [hdb] at H3
    rw [hdb]
    clear hdb
    go_wp2_with fail
    go_loopg [6,7] n1 (fun gg u yv wr=>∃ i,i+gg=n1∧yv=.int .i64 (i:Int)∧u=.string (bs (answers D ss0 (M.take i)))∧Hid (Dk w2 wr db (after D ss0 (M.take i)) i)∧Hid ((answers D ss0 (M.take i)).length≤1000010*i))
    case atStart=>exact ⟨0,by omega,rfl,by rw [HA0.out],H3,HL0⟩
    case round=>
      obtain ⟨i,hig,rfl,rfl,HDk,HLn⟩:=hrel
      clear H3 HA0 HL0
      by_cases hi:i<n1
      · have hiz:(i:Int)<(n1:Int):=by omega
        have hc:=HMC.out i hi
        have hcr:=(HDk.out.bel.cell (World.block_lt_of_cell? _ _ hc)).trans hc
        have CL:=hidden (line_all D hD HDk.out (after_ok (M.take i) ss0_ok) (by omega) (HML.out i hi))
        have hiM:i<M.length:=by have:=HMN.out;omega
        have htk:=take_snoc0 M hiM
        obtain ⟨x,hx⟩:∃ x,M.getD i []=x:=⟨_,rfl⟩
        rw [hx] at hcr CL htk
        have hst1:answers D ss0 (M.take (i+1))=answers D ss0 (M.take i)++(line D (after D ss0 (M.take i)) x).1.tell++[10]:=by
          rw [htk,answers_app]
          simp [answers]
        have hst2:after D ss0 (M.take (i+1))=(line D (after D ss0 (M.take i)) x).2:=by
          rw [htk,after_app]
          rfl
        obtain ⟨r,hr⟩:∃ r,line D (after D ss0 (M.take i)) x=r:=⟨_,rfl⟩
        rw [hr] at CL hst1 hst2
        have HS1:=hidden hst1
        have HS2:=hidden hst2
        have sx:=bs_size (answers D ss0 (M.take i))
        have hln:=HLn.out
        obtain ⟨X,hX⟩:∃ X,answers D ss0 (M.take i)=X:=⟨_,rfl⟩
        rw [hX] at sx hln ⊢
        have HX:=hidden hX
        have hX2:X.length≤10000000000:=by have:=hmm;omega
        clear hc htk hx hst1 hst2 hr hln hX hiM
        go_wp2_with fail
        refine CL.out.mono ?_
        rintro e w4 ⟨htl,rfl,hd4⟩
        have HD4:Hid (Dk w2 w4 db (after D ss0 (M.take (i+1))) (i+1)):=hidden (by rw [HS2.out];exact hd4)
        have HT:Hid ((answers D ss0 (M.take (i+1))).length≤1000010*(i+1)):=hidden (by
          rw [HS1.out,HX.out,List.length_append,List.length_append]
          have h1:=HLn.out
          rw [HX.out] at h1
          simp only [List.length_singleton]
          omega)
        have HF:Hid (bs (answers D ss0 (M.take (i+1)))=bs X++bs r.1.tell++⟨#[10]⟩):=hidden (by
          rw [HS1.out,HX.out,show (⟨#[10]⟩:ByteArray)=bs [10] from rfl,bs_app,bs_app])
        have sy:=bs_size r.1.tell
        clear hd4
        generalize bs X=BX at *
        generalize bs r.1.tell=BY at *
        have z1:¬ 9223372036854775807<BX.size+BY.size:=by omega
        have z2:BX.size+BY.size≤9223372036854775807:=by omega
        have z3:¬ 9223372036854775807<BX.size+BY.size+1:=by omega
        have z4:BX.size+BY.size+1≤9223372036854775807:=by omega
        have z5:¬ 9223372036854775807<(BX++BY).size+1:=by rw [ByteArray.size_append];exact z3
        clear sx sy hX2 htl
        go_wp2_with fail
        go_roundg (n1 - (i+1))
        case measure=>omega
        case rel=>exact ⟨i+1,by omega,by go_num,by rw [HF.out],HD4,HT⟩
      · have hiz:¬ (i:Int)<(n1:Int):=by omega
        have he:M.take i=M:=List.take_of_length_le (by have:=HMN.out;omega)
        have HBl:=hidden (HB2.out.trans (HDk.out.bel.mono HB2.out.size))
        have qq:((bs (answers D ss0 M)).toList==(bs (answers D ss0 M)).toList)=true:=by simp
        rw [he]
        generalize bs (answers D ss0 M)=BA at *
        go_wp2_with fail
        go_ret
        exact ⟨by first | rfl | simp,HBl.out⟩
  · have hM:M=T:=by rw [HLC.out,hy,if_neg hy0]
    have q9:((bs y).toList==[])=false:=eq_no hy0
    obtain ⟨mm,hmm0⟩:∃ mm,n1+1=mm:=⟨_,rfl⟩
    have HMN:Hid (M.length=mm):=hidden (by rw [hM,HN1.out];omega)
    have HMC:Hid (∀ i,i<mm→w2.cell? ⟨g,i,none⟩=some (.string (bs (M.getD i [])))):=hidden (fun i hi=>by rw [hM];exact HAT.out i (by have:=HN1.out;omega))
    have HML:Hid (∀ i,i<mm→(M.getD i []).length≤3000):=hidden (fun i hi=>by
      rw [hM]
      have hiT:i<T.length:=by have:=HN1.out;omega
      have:=HCM.out.2 (T.getD i []) (by rw [List.getD_eq_getElem?_getD,List.getElem?_eq_getElem hiT];exact List.getElem_mem hiT)
      omega)
    have hmm:mm≤3001:=by omega
    have hix2:IntKind.i64.wrap ((mm:Int) - 1)=(n1:Int):=by rw [IntKind.wrap_i64];omega
    have hlt1:(n1:Int)<(mm:Int):=by omega
    rw [hmm0]
    clear hM hy hy0 hmm0 hix hcap
    go_wp2_with fail
    refine (rnew_calls w2).mono ?_
    rintro e w3 ⟨rfl,hd3⟩
    have H3:Hid (Dk w2 w3 w2.heap.size (after D ss0 (M.take 0)) 0):=hidden (by rw [List.take_zero];exact hd3)
    have HA0:Hid (bs (answers D ss0 (M.take 0))=⟨#[]⟩):=hidden (by rw [List.take_zero];rfl)
    have HL0:Hid ((answers D ss0 (M.take 0)).length≤1000010*0):=hidden (by rw [List.take_zero];exact Nat.le_refl _)
    clear hd3
    obtain ⟨db,hdb⟩:∃ db,w2.heap.size=db:=⟨_,rfl⟩
    rw [hdb] at H3
    rw [hdb]
    clear hdb
    go_wp2_with fail
    go_loopg [6,7] mm (fun gg u yv wr=>∃ i,i+gg=mm∧yv=.int .i64 (i:Int)∧u=.string (bs (answers D ss0 (M.take i)))∧Hid (Dk w2 wr db (after D ss0 (M.take i)) i)∧Hid ((answers D ss0 (M.take i)).length≤1000010*i))
    case atStart=>exact ⟨0,by omega,rfl,by rw [HA0.out],H3,HL0⟩
    case round=>
      obtain ⟨i,hig,rfl,rfl,HDk,HLn⟩:=hrel
      clear H3 HA0 HL0
      by_cases hi:i<mm
      · have hiz:(i:Int)<(mm:Int):=by omega
        have hc:=HMC.out i hi
        have hcr:=(HDk.out.bel.cell (World.block_lt_of_cell? _ _ hc)).trans hc
        have CL:=hidden (line_all D hD HDk.out (after_ok (M.take i) ss0_ok) (by omega) (HML.out i hi))
        have hiM:i<M.length:=by have:=HMN.out;omega
        have htk:=take_snoc0 M hiM
        obtain ⟨x,hx⟩:∃ x,M.getD i []=x:=⟨_,rfl⟩
        rw [hx] at hcr CL htk
        have hst1:answers D ss0 (M.take (i+1))=answers D ss0 (M.take i)++(line D (after D ss0 (M.take i)) x).1.tell++[10]:=by
          rw [htk,answers_app]
          simp [answers]
        have hst2:after D ss0 (M.take (i+1))=(line D (after D ss0 (M.take i)) x).2:=by
          rw [htk,after_app]
          rfl
        obtain ⟨r,hr⟩:∃ r,line D (after D ss0 (M.take i)) x=r:=⟨_,rfl⟩
        rw [hr] at CL hst1 hst2
        have HS1:=hidden hst1
        have HS2:=hidden hst2
        have sx:=bs_size (answers D ss0 (M.take i))
        have hln:=HLn.out
        obtain ⟨X,hX⟩:∃ X,answers D ss0 (M.take i)=X:=⟨_,rfl⟩
        rw [hX] at sx hln ⊢
        have HX:=hidden hX
        have hX2:X.length≤10000000000:=by have:=hmm;omega
        clear hc htk hx hst1 hst2 hr hln hX hiM
        go_wp2_with fail
        refine CL.out.mono ?_
        rintro e w4 ⟨htl,rfl,hd4⟩
        have HD4:Hid (Dk w2 w4 db (after D ss0 (M.take (i+1))) (i+1)):=hidden (by rw [HS2.out];exact hd4)
        have HT:Hid ((answers D ss0 (M.take (i+1))).length≤1000010*(i+1)):=hidden (by
          rw [HS1.out,HX.out,List.length_append,List.length_append]
          have h1:=HLn.out
          rw [HX.out] at h1
          simp only [List.length_singleton]
          omega)
        have HF:Hid (bs (answers D ss0 (M.take (i+1)))=bs X++bs r.1.tell++⟨#[10]⟩):=hidden (by
          rw [HS1.out,HX.out,show (⟨#[10]⟩:ByteArray)=bs [10] from rfl,bs_app,bs_app])
        have sy:=bs_size r.1.tell
        clear hd4
        generalize bs X=BX at *
        generalize bs r.1.tell=BY at *
        have z1:¬ 9223372036854775807<BX.size+BY.size:=by omega
        have z2:BX.size+BY.size≤9223372036854775807:=by omega
        have z3:¬ 9223372036854775807<BX.size+BY.size+1:=by omega
        have z4:BX.size+BY.size+1≤9223372036854775807:=by omega
        have z5:¬ 9223372036854775807<(BX++BY).size+1:=by rw [ByteArray.size_append];exact z3
        clear sx sy hX2 htl
        go_wp2_with fail
        go_roundg (mm - (i+1))
        case measure=>omega
        case rel=>exact ⟨i+1,by omega,by go_num,by rw [HF.out],HD4,HT⟩
      · have hiz:¬ (i:Int)<(mm:Int):=by omega
        have he:M.take i=M:=List.take_of_length_le (by have:=HMN.out;omega)
        have HBl:=hidden (HB2.out.trans (HDk.out.bel.mono HB2.out.size))
        have qq:((bs (answers D ss0 M)).toList==(bs (answers D ss0 M)).toList)=true:=by simp
        rw [he]
        generalize bs (answers D ss0 M)=BA at *
        go_wp2_with fail
        go_ret
        exact ⟨by first | rfl | simp,HBl.out⟩
theorem far_exists:∃ D:Far,D.Ok:=by
  refine ⟨fun N L=>Classical.choose (TM.isDist_exists L N.toNat 0),fun N L _=>Classical.choose_spec (TM.isDist_exists L N.toNat 0)⟩
theorem answers_str (D:Far) (hD:D.Ok) (ea:Addr) (t:ByteArray) (ht:t.size≤maxLen) (w:World) (g:GW ea w) :
    Calls Tryz.prog 3 #[.string t] w fun e W'=>e=.returned (.bool true)∧Below w.heap.size w W':=by
  have hl:t.data.toList.length=t.size:=by simp
  have h64:t.data.toList.length≤9223372036854775807:=by unfold maxLen at ht;omega
  rw [← bs_of t]
  by_cases h:3000<t.data.toList.length
  · exact answers_long D hD ea _ h64 h w g
  · exact answers_short D hD ea _ (by omega) w g
end Go.Proofs.YtlppdppddiecnaaGreatDoor.Run
